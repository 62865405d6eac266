/-
  Texts in one: Mbw Grp Grq Mbx Mbm Mbk Mcg Tlr Tlt Mbo Rcy Mbc Mbf Olx Qtl Mbg Mbd Mbh Mcl Mcm Mcn Mco Mcp Mch.
-/
import Derived.Test.YtgfeabgmllkdeaaJab
import Derived.Test.YtgfeabgmllkdeaaJaa
import Derived.BigQuiet
import Derived.StillTail
import Derived.OrdersHeld
import Derived.Deep.RegionHeld
import Derived.Deep.Cut
import Derived.Deep.CutRange
import Derived.Deep.Quiet
/-
  Members, plain: whatever right member it is, it stays right; its row follows what it was.
-/
namespace Go.Proofs.Ytgfeabgmllkdeaa
set_option linter.unusedVariables false
set_option linter.unusedSimpArgs false
open Go.RowKit Go.Sort

/-- What okMb says. -/
structure OkM (m : Mb) (i n : Nat) : Prop where
  hid : m.id = (i : Int)
  hn : m.n = (n : Int)
  n5 : 1 ≤ n ∧ n ≤ 5
  lt : i < n
  len : m.rows.length = n
  sl : m.sung.length ≤ 60
  ris : m.sung.Pairwise (· < ·)
  ok : ∀ j, j < n → OkR (rowN m.rows j) n
  sg : ∀ q, q < m.sung.length → (0 ≤ el m.sung q ∧ el m.sung q ≤ 59) ∧ (m.done = false → el m.sung q = (q : Int))
  gown : el (rowN m.rows i).got i = ((rowN m.rows i).txt.length : Int)
  self : (i : Int) ∉ (rowN m.rows i).sus
  dn : m.done = true → (rowN m.rows i).rdy = true
theorem rowN_mem {R : List Rw} {j : Nat} (h : j < R.length) : rowN R j ∈ R := by
  unfold rowN
  rw [List.getD_eq_getElem?_getD, List.getElem?_eq_getElem h]
  exact List.getElem_mem h
theorem mem_rowN {R : List Rw} {r : Rw} (h : r ∈ R) : ∃ j, j < R.length ∧ r = rowN R j := by
  obtain ⟨j, hj, rfl⟩ := List.mem_iff_getElem.1 h
  exact ⟨j, hj, by simp [rowN, hj]⟩
theorem okMb_iff {m : Mb} : okMb m = true ↔ ∃ i n, OkM m i n := by
  constructor
  · intro h
    simp only [okMb, okSg, Bool.and_eq_true, decide_eq_true_eq, List.all_eq_true, List.mem_range, Bool.or_eq_true] at h
    obtain ⟨h1, h2, h3, h4, h5, h6, h7, h8, h9, h10⟩ := h
    have h1 := inB7.1 h1
    have h2 := inB7.1 h2
    have hid : m.id = ((m.id.toNat : Nat) : Int) := by omega
    have hn : m.n = ((m.n.toNat : Nat) : Int) := by omega
    refine ⟨m.id.toNat, m.n.toNat, hid, hn, by omega, by omega, by omega, h4, ris_iff.1 h5, fun j hj => okRw_iff.1 (by rw [← hn]; exact h6 _ (rowN_mem (by omega))), fun q hq => ?_, h8, by rw [← hid]; exact h9, fun hd => ?_⟩
    · obtain ⟨q1, q2⟩ := h7 q hq
      have := inB7.1 q1
      refine ⟨this, fun hd => ?_⟩
      rcases q2 with q2 | q2
      · rw [hd] at q2; cases q2
      · exact q2
    · rw [hd] at h10
      have h11 : m.own.rdy = true := by simpa using h10
      exact h11
  · rintro ⟨i, n, M⟩
    have hlt := M.lt
    have hn5 := M.n5
    have hi : m.i = i := by rw [Mb.i, M.hid]; rfl
    simp only [okMb, okSg, Bool.and_eq_true, decide_eq_true_eq, List.all_eq_true, List.mem_range, Bool.or_eq_true]
    refine ⟨inB7.2 (by rw [M.hn]; omega), inB7.2 (by rw [M.hid, M.hn]; omega), by rw [M.len, M.hn], M.sl, ris_iff.2 M.ris, fun r hr => ?_, fun q hq => ?_, ?_, ?_, ?_⟩
    · obtain ⟨j, hj, rfl⟩ := mem_rowN hr
      rw [M.hn]
      exact okRw_iff.2 (M.ok j (by rw [← M.len]; exact hj))
    · obtain ⟨q1, q2⟩ := M.sg q hq
      refine ⟨inB7.2 q1, ?_⟩
      cases hd : m.done with
      | true => exact .inl rfl
      | false => exact .inr (q2 hd)
    · rw [Mb.own, hi]; exact M.gown
    · rw [Mb.own, hi, M.hid]; exact M.self
    · cases hd : m.done with
      | false => exact .inl rfl
      | true => exact .inr (by rw [Mb.own, hi]; exact M.dn hd)
theorem OkM.i {m : Mb} {i n : Nat} (M : OkM m i n) : m.i = i := by rw [Mb.i, M.hid]; rfl
theorem OkM.k {m : Mb} {i n : Nat} (M : OkM m i n) : m.k = n := by rw [Mb.k, M.hn]; rfl
theorem OkM.own {m : Mb} {i n : Nat} (M : OkM m i n) : m.own = rowN m.rows i := by rw [Mb.own, M.i]
end Go.Proofs.Ytgfeabgmllkdeaa

/-
  Groups, plain: acts, and what holds behind any script of a new group.
-/
namespace Go.Proofs.Ytgfeabgmllkdeaa
set_option linter.unusedVariables false
set_option linter.unusedSimpArgs false
open Go.RowKit Go.Sort

end Go.Proofs.Ytgfeabgmllkdeaa

/-
  Groups, plain: one song, one end, sound; what a new group is.
-/
namespace Go.Proofs.Ytgfeabgmllkdeaa
set_option linter.unusedVariables false
set_option linter.unusedSimpArgs false
open Go.RowKit Go.Sort

theorem newRw_ok {n : Nat} (hn : 1 ≤ n ∧ n ≤ 5) : OkR (newRw (n : Int)) n ∧ newRw (n : Int) = ⟨0, [], List.replicate n 0, [], false, false, 0, []⟩ := by
  have e : newRw (n : Int) = ⟨0, [], List.replicate n 0, [], false, false, 0, []⟩ := by rw [newRw, if_pos (inB7.2 (by omega))]; simp
  rw [e]
  have hg := (small_iff (v := List.replicate n 0) hn (by simp)).2 (fun j hj => by simp [el, List.getElem?_replicate, hj])
  exact ⟨⟨hn, by simp, by simp, fun t ht => (by cases ht), hg.1, by simp, hg.2, fun x hx => (by cases hx), by simp [risB], fun h => (by cases h), fun _ => ⟨rfl, rfl⟩⟩, rfl⟩
end Go.Proofs.Ytgfeabgmllkdeaa

/-
  Members, plain: a right member stays right, whatever it says, doubts, hears and does; what each act is.
-/
namespace Go.Proofs.Ytgfeabgmllkdeaa
set_option linter.unusedVariables false
set_option linter.unusedSimpArgs false
open Go.RowKit Go.Sort

theorem ris_ge : ∀ {l : List Int} {a : Int}, l.Pairwise (· < ·) → (∀ x ∈ l, a ≤ x) → ∀ q, q < l.length → a + (q : Int) ≤ el l q
  | x :: l, a, h, hx, 0, _ => by
    have := hx x List.mem_cons_self
    simpa [el] using this
  | x :: l, a, h, hx, q + 1, hq => by
    have h1 := List.pairwise_cons.1 h
    have hxa := hx x List.mem_cons_self
    have ih := ris_ge (l := l) (a := a + 1) h1.2 (fun y hy => by have := h1.1 y hy; omega) q (by simp at hq; omega)
    have e : el (x :: l) (q + 1) = el l q := by simp [el]
    rw [e]
    push_cast
    omega
theorem ris_short {l : List Int} {k : Nat} (h : l.Pairwise (· < ·)) (hx : ∀ x ∈ l, 0 ≤ x ∧ x < (k : Int)) : l.length ≤ k := by
  refine Classical.byContradiction fun hn => ?_
  have h1 := ris_ge h (fun x hx2 => (hx x hx2).1) (l.length - 1) (by omega)
  have h2 := (hx _ (el_mem (i := l.length - 1) (xs := l) (by omega))).2
  omega
theorem new_okM {id n : Int} (h : (newMb id n).2 = true) : okMb (newMb id n).1 = true := by
  unfold newMb at h ⊢
  split at h
  · rename_i hc
    rw [if_pos hc]
    have h1 := inB7.1 hc.1
    have h2 := inB7.1 hc.2
    have hid : id = ((id.toNat : Nat) : Int) := by omega
    have hn : n = ((n.toNat : Nat) : Int) := by omega
    have hlt : id.toNat < n.toNat := by omega
    obtain ⟨ok, e⟩ := newRw_ok (n := n.toNat) (by omega)
    rw [← hn] at ok e
    have hr : ∀ j, j < n.toNat → rowN (List.replicate n.toNat (newRw n)) j = newRw n := fun j hj => by simp [rowN, List.getElem?_replicate, hj]
    refine okMb_iff.2 ⟨id.toNat, n.toNat, hid, hn, by omega, hlt, by simp, by simp, List.Pairwise.nil, fun j hj => ?_, fun q hq => (by simp at hq), ?_, ?_, fun h => (by cases h)⟩
    · simp only [hr j hj]; exact ok
    · simp only [hr _ hlt]
      rw [e]
      simp [el, List.getElem?_replicate, hlt]
    · simp only [hr _ hlt]
      rw [e]
      simp
  · cases h
end Go.Proofs.Ytgfeabgmllkdeaa

/-
  Members in memory: their cells, to be read and to be owned.
-/
namespace Go.Proofs.Ytgfeabgmllkdeaa
set_option linter.unusedVariables false
set_option linter.unusedSimpArgs false
open Go.RowKit Go.Sort

/-- A place to be read. -/
def Pv (w : World) (B o : Nat) (cs : List Cel) : Prop := ∃ vs, (∀ j, j < vs.length → w.cell? ⟨B, o + j, none⟩ = vs[j]?) ∧ vwL w cs vs
theorem Plc.pv {w : World} {B o : Nat} {cs : List Cel} {fp : Fp} (h : Plc w B o cs fp) : Pv w B o cs := by
  obtain ⟨vs, h1, h2, _⟩ := h
  exact ⟨vs, h1.cell, owL_vw h2⟩
theorem Pv.at {w : World} {B o : Nat} {cs : List Cel} (h : Pv w B o cs) {j : Nat} {c : Cel} (hj : cs[j]? = some c) : ∃ u, w.cell? ⟨B, o + j, none⟩ = some u ∧ Cel.vw w c u := by
  obtain ⟨vs, h1, h2⟩ := h
  obtain ⟨u, hu, hv⟩ := vwL_at h2 hj
  refine ⟨u, (h1 j ?_).trans hu, hv⟩
  rcases Nat.lt_or_ge j vs.length with h | h
  · exact h
  · rw [List.getElem?_eq_none h] at hu; cases hu
theorem vwL_split {w : World} : ∀ {cs ds : List Cel} {ws : List Value}, vwL w (cs ++ ds) ws → ∃ us vs, ws = us ++ vs ∧ vwL w cs us ∧ vwL w ds vs
  | [], ds, ws, h => ⟨[], ws, rfl, rfl, h⟩
  | c :: cs, ds, ws, h => by
    obtain ⟨u, us', rfl, h1, h2⟩ := h
    obtain ⟨us, vs, rfl, h3, h4⟩ := vwL_split h2
    exact ⟨u :: us, vs, rfl, ⟨u, us, rfl, h1, h3⟩, h4⟩
/-- Element k of a list of structs, to be read. -/
theorem vw_elF {α : Type} {F : α → List Cel} {s : Nat} (hF : ∀ x, (F x).length = s) {w : World} {a : Option Addr} {c : Nat} {L : List α} (h : Cel.vw w (lcl s F L) (.slice a L.length c)) {k : Nat} {x : α} (hk : L[k]? = some x) : ∃ g off, a = some ⟨g, off, none⟩ ∧ Pv w g (off + k * s) (F x) := by
  obtain ⟨a0, c0, us, e0, h1, h2, h3, h4, h5⟩ := h
  cases e0
  have hkl : k < L.length := by
    rcases Nat.lt_or_ge k L.length with h | h
    · exact h
    · rw [List.getElem?_eq_none h] at hk; cases hk
  rcases h4 with h4 | ⟨b, off, rfl, hc⟩
  · omega
  have hks : k * s + s ≤ L.length * s := by
    have : (k + 1) * s ≤ L.length * s := Nat.mul_le_mul_right s hkl
    rw [Nat.add_mul, Nat.one_mul] at this
    exact this
  have e1 : L.flatMap F = (L.flatMap F).take (k * s) ++ (((L.flatMap F).drop (k * s)).take s ++ (L.flatMap F).drop (k * s + s)) := by
    rw [← List.drop_drop, List.take_append_drop, List.take_append_drop]
  rw [e1] at h5
  obtain ⟨u1, u23, rfl, l1, l23⟩ := vwL_split h5
  obtain ⟨u2, u3, rfl, l2, l3⟩ := vwL_split l23
  rw [flat_take hF hk] at l2
  have hd := flat_len hF L
  have n1 : u1.length = k * s := by rw [vwL_len l1, List.length_take]; omega
  have n2 : u2.length = s := by rw [vwL_len l2, hF]
  refine ⟨b, off, rfl, u2, fun j hj => ?_, l2⟩
  rw [Nat.add_assoc, hc (k * s + j) (by omega), List.getElem?_append_right (by omega), List.getElem?_append_left (by omega), n1]
  congr 1
  omega
/-- The cells of a row. -/
def rw8 (r : Rw) : List Cel := [.v (.int .i64 r.ver), scl r.txt, icl r.got, icl r.sus, .v (.bool r.wed), .v (.bool r.rdy), .v (.int .i64 r.by_), icl r.trm]
theorem rw8_len (r : Rw) : (rw8 r).length = 8 := rfl
/-- Eight cells from ⟨g, o⟩ on. -/
def C8 (w : World) (g o : Nat) (x0 x1 x2 x3 x4 x5 x6 x7 : Value) : Prop := (w.cell? ⟨g, o, none⟩ = some x0 ∧ w.cell? ⟨g, o + 1, none⟩ = some x1 ∧ w.cell? ⟨g, o + 2, none⟩ = some x2 ∧ w.cell? ⟨g, o + 3, none⟩ = some x3) ∧ w.cell? ⟨g, o + 4, none⟩ = some x4 ∧ w.cell? ⟨g, o + 5, none⟩ = some x5 ∧ w.cell? ⟨g, o + 6, none⟩ = some x6 ∧ w.cell? ⟨g, o + 7, none⟩ = some x7
theorem Pv.row {w : World} {g o : Nat} {r : Rw} (h : Pv w g o (rw8 r)) (hf : FitR r) : ∃ A : Ra, C8 w g o (.int .i64 r.ver) (.slice A.ta r.txt.length A.tc) (.slice A.ga r.got.length A.gc) (.slice A.sa r.sus.length A.sc) (.bool r.wed) (.bool r.rdy) (.int .i64 r.by_) (.slice A.ma r.trm.length A.mc) ∧ RwS w A r := by
  obtain ⟨u0, c0, rfl⟩ := h.at (j := 0) rfl
  obtain ⟨u1, c1, v1⟩ := h.at (j := 1) rfl
  obtain ⟨u2, c2, v2⟩ := h.at (j := 2) rfl
  obtain ⟨u3, c3, v3⟩ := h.at (j := 3) rfl
  obtain ⟨u4, c4, rfl⟩ := h.at (j := 4) rfl
  obtain ⟨u5, c5, rfl⟩ := h.at (j := 5) rfl
  obtain ⟨u6, c6, rfl⟩ := h.at (j := 6) rfl
  obtain ⟨u7, c7, v7⟩ := h.at (j := 7) rfl
  obtain ⟨ta, tc, rfl, t1, t2, t3⟩ := vw_scl v1
  obtain ⟨ga, gc, rfl, g1, g2, g3⟩ := vw_icl v2 hf.1
  obtain ⟨sa, sc, rfl, s1, s2, s3⟩ := vw_icl v3 hf.2.1
  obtain ⟨ma, mc, rfl, m1, m2, m3⟩ := vw_icl v7 hf.2.2
  exact ⟨⟨ta, tc, ga, gc, sa, sc, ma, mc⟩, ⟨⟨c0, c1, c2, c3⟩, c4, c5, c6, c7⟩, t1, g1, s1, m1, by omega, by omega, by omega, by omega⟩
/-- Where a member's lists lie. -/
structure Ma where
  ra : Option Addr
  rc : Nat
  sa : Option Addr
  sc : Nat
def mbC (A : Ma) (m : Mb) : Array Value := #[.int .i64 m.id, .int .i64 m.n, .slice A.ra m.rows.length A.rc, .slice A.sa m.sung.length A.sc, .bool m.done]
/-- A member as a value. -/
def mbV (A : Ma) (m : Mb) : Value := .agg (mbC A m)
def mbCels (m : Mb) : List Cel := [lcl 8 rw8 m.rows, icl m.sung]
def mbVals (A : Ma) (m : Mb) : List Value := [.slice A.ra m.rows.length A.rc, .slice A.sa m.sung.length A.sc]
/-- All numbers in it are of 64 bits. -/
def FitM (m : Mb) : Prop := (∀ r ∈ m.rows, FitR r) ∧ Fits m.sung
/-- A member to be read. -/
structure MbS (w : World) (A : Ma) (m : Mb) : Prop where
  rows : Cel.vw w (lcl 8 rw8 m.rows) (.slice A.ra m.rows.length A.rc)
  sung : Vec w A.sa m.sung.length m.sung
  mr : m.rows.length ≤ maxLen
  ms : m.sung.length ≤ maxLen
  fit : ∀ r ∈ m.rows, FitR r
theorem MbS.below {w w' : World} {A : Ma} {m : Mb} (h : MbS w A m) (hb : Below w.heap.size w w') : MbS w' A m := ⟨Cel.vw_below h.rows hb, h.sung.below hb (Nat.le_refl _), h.mr, h.ms, h.fit⟩
theorem mbs_of {w : World} {A : Ma} {m : Mb} (h : vwL w (mbCels m) (mbVals A m)) (hf : FitM m) : MbS w A m := by
  obtain ⟨u1, us1, e1, h1, h2⟩ := h
  cases e1
  obtain ⟨u2, us2, e2, h3, _⟩ := h2
  cases e2
  obtain ⟨a, c, e, h4, h5, h6⟩ := vw_icl h3 hf.2
  cases e
  have k := h1
  obtain ⟨_, _, _, e, k1, k2, _⟩ := k
  cases e
  exact ⟨h1, h4, by omega, by omega, hf.1⟩
/-- Row k of a member, to be read. -/
theorem MbS.row {w : World} {A : Ma} {m : Mb} (h : MbS w A m) {k : Nat} (hk : k < m.rows.length) : ∃ g off Ak, A.ra = some ⟨g, off, none⟩ ∧ C8 w g (off + k * 8) (.int .i64 (rowN m.rows k).ver) (.slice Ak.ta (rowN m.rows k).txt.length Ak.tc) (.slice Ak.ga (rowN m.rows k).got.length Ak.gc) (.slice Ak.sa (rowN m.rows k).sus.length Ak.sc) (.bool (rowN m.rows k).wed) (.bool (rowN m.rows k).rdy) (.int .i64 (rowN m.rows k).by_) (.slice Ak.ma (rowN m.rows k).trm.length Ak.mc) ∧ RwS w Ak (rowN m.rows k) := by
  have e : m.rows[k]? = some (rowN m.rows k) := by simp [rowN, List.getD, hk]
  obtain ⟨g, off, h1, h2⟩ := vw_elF rw8_len h.rows e
  obtain ⟨Ak, h3, h4⟩ := h2.row (h.fit _ (List.mem_of_getElem? e))
  exact ⟨g, off, Ak, h1, h3, h4⟩
end Go.Proofs.Ytgfeabgmllkdeaa

/-
  The specification's MemberOk.
-/
namespace Go.Proofs.Ytgfeabgmllkdeaa
set_option linter.unusedVariables false
set_option linter.unusedSimpArgs false
open Go.RowKit Go.Sort

theorem Bx.r5 {w : World} {B : Nat} {T : TypeId} {x0 x1 x2 x3 x4 : Value} (h : Bx w B T #[x0, x1, x2, x3, x4]) : w.cell? ⟨B, 0, none⟩ = some x0 ∧ w.cell? ⟨B, 1, none⟩ = some x1 ∧ w.cell? ⟨B, 2, none⟩ = some x2 ∧ w.cell? ⟨B, 3, none⟩ = some x3 ∧ w.cell? ⟨B, 4, none⟩ = some x4 :=
  ⟨h.at 0 rfl, h.at 1 rfl, h.at 2 rfl, h.at 3 rfl, h.at 4 rfl⟩
theorem rowN_at {R : List Rw} {k : Nat} (hk : k < R.length) : R[k]? = some (rowN R k) := by simp [rowN, List.getD, hk]
end Go.Proofs.Ytgfeabgmllkdeaa

/-
  The laws' own szRowS and szMember.
-/
namespace Go.Proofs.Ytgfeabgmllkdeaa
set_option linter.unusedVariables false
set_option linter.unusedSimpArgs false
open Go.RowKit Go.Sort

/-- How much the first k rows hold. -/
def szP (R : List Rw) (k : Nat) : Nat := ((R.take k).map szRw).sum
def szRs (R : List Rw) : Nat := R.length + szP R R.length
/-- How much a member holds. -/
def szMb (m : Mb) : Nat := szRs m.rows + m.sung.length
end Go.Proofs.Ytgfeabgmllkdeaa

/-
  A region that draws its order and whose last store waits for all that reads: what reads may be taken first under a condition that the store need not keep; what hangs on no world at all may be taken first anyway.
-/
namespace Go.Proofs.Ytgfeabgmllkdeaa
set_option linter.unusedSimpArgs false
set_option linter.unusedVariables false
open Go.RowKit Go.Sort

section
variable {P : Program} {ops : Array Oper} {Q : Exit → Act → World → Prop} {md : Region.Mode} {S : World → Prop}
/-- Whatever order is picked from here on, and every operation but number z keeps S. -/
def wpAnyT (P : Program) (md : Region.Mode) (ops : Array Oper) (Q : Exit → Act → World → Prop) (S : World → Prop) (z : Nat) : Nat → Array Bool → Act → World → Prop
  | 0, listed, a, w => Region.ready md ops listed = [] ∧ Q .normal a w
  | fuel + 1, listed, a, w =>
    (Region.ready md ops listed = [] → Q .normal a w) ∧
    ∀ i ∈ Region.ready md ops listed, wpOp P ops Q i (fun a' w' => (i ≠ z → S w → S w') ∧ wpAnyT P md ops Q S z fuel (listed.setIfInBounds i true) a' w') a w
theorem wpAny_of_T {z : Nat} : ∀ (fuel : Nat) (listed : Array Bool) (a : Act) (w : World), wpAnyT P md ops Q S z fuel listed a w → wpAny P md ops Q fuel listed a w
  | 0, _, _, _, h => h
  | fuel + 1, _, _, _, h => ⟨h.1, fun i hi => wpOp_mono (fun a' w' h' => wpAny_of_T fuel _ a' w' h'.2) (h.2 i hi)⟩
/-- What reads, under S: number z waits for it. -/
theorem wpAnyT_first {i z : Nat} {oi : Oper} {v : Value} (hi : ops[i]? = some oi) (hsel : ∀ (j : Nat) (o : Oper) cs b, ops[j]? = some o → o.op ≠ .select cs b)
    (hQ : ∀ c a w, Q (.panic c) (a.put oi.dst v) w → Q (.panic c) a w) (hz : Region.waitsFor md ops z i = true) (hiz : i ≠ z) :
    ∀ (fuel : Nat) (listed : Array Bool) (a : Act) (w : World),
      (∀ j oj, ops[j]? = some oj → j ≠ i → listed.getD j true = false → (∀ e ∈ oj.after, Region.binds md e = true → e.on ≠ i) → oi.apart ops oj = true) →
      i ∈ Region.ready md ops listed → YieldsIf P ops S oi v a → S w →
      wpAnyT P md ops Q S z fuel (listed.setIfInBounds i true) (a.put oi.dst v) w → wpAnyT P md ops Q S z (fuel + 1) listed a w := by
  intro fuel
  induction fuel with
  | zero =>
    intro listed a w _ hr hy hS H
    refine ⟨fun h => (by rw [h] at hr; cases hr), fun j hj => ?_⟩
    by_cases hji : j = i
    · subst hji; exact hy.wpOp hi hS ⟨fun _ h => h, H⟩
    · have := ready_mono hj hji
      rw [H.1] at this
      cases this
  | succ fuel ih =>
    intro listed a w hfree hr hy hS H
    have hun := (mem_ready.1 hr).1
    refine ⟨fun h => (by rw [h] at hr; cases hr), fun j hj => ?_⟩
    by_cases hji : j = i
    · subst hji; exact hy.wpOp hi hS ⟨fun _ h => h, H⟩
    · obtain ⟨hjun, oj, hoj, hall⟩ := mem_ready.1 hj
      have hnot : ∀ e ∈ oj.after, Region.binds md e = true → e.on ≠ i := fun e he hb heq => by
        have h3 := hall e he hb
        rw [heq, getD_both hun] at h3
        cases h3
      have hjz : j ≠ z := fun e => by
        subst e
        obtain ⟨o', ho', e, he, hb, hon⟩ := Region.waitsFor_spec hz
        have : o' = oj := Option.some.inj (ho'.symm.trans hoj)
        subst this
        exact hnot e he hb hon
      have h1 := H.2 j (ready_mono hj hji)
      have h2 := wpOp_putIf hoj (hfree j oj hoj hji hjun hnot) (fun cs b => hsel i oi cs b hi) (fun cs b => hsel j oj cs b hoj) hQ hy h1
      have hfree' : ∀ k ok, ops[k]? = some ok → k ≠ i → (listed.setIfInBounds j true).getD k true = false →
          (∀ e ∈ ok.after, Region.binds md e = true → e.on ≠ i) → oi.apart ops ok = true := fun k ok hk hki hun hno => by
        refine hfree k ok hk hki ?_ hno
        by_cases hjk : j = k
        · subst hjk; exact hjun
        · rw [getD_set_ne true hjk] at hun; exact hun
      refine wpOp_mono (fun a' w' h3 => ⟨h3.2.1, ih (listed.setIfInBounds j true) a' w' hfree' (ready_mono hr (Ne.symm hji)) h3.1 (h3.2.1 hjz hS) ?_⟩) h2
      rw [Array.setIfInBounds_comm _ _ hji]
      exact h3.2.2
/-- What hangs on no world. -/
theorem wpAnyT_pure {i z : Nat} {oi : Oper} {v : Value} (hi : ops[i]? = some oi) (hsel : ∀ (j : Nat) (o : Oper) cs b, ops[j]? = some o → o.op ≠ .select cs b)
    (hQ : ∀ c a w, Q (.panic c) (a.put oi.dst v) w → Q (.panic c) a w) :
    ∀ (fuel : Nat) (listed : Array Bool) (a : Act) (w : World),
      (∀ j oj, ops[j]? = some oj → j ≠ i → listed.getD j true = false → (∀ e ∈ oj.after, Region.binds md e = true → e.on ≠ i) → oi.apart ops oj = true) →
      i ∈ Region.ready md ops listed → Yields P ops oi v a →
      wpAnyT P md ops Q S z fuel (listed.setIfInBounds i true) (a.put oi.dst v) w → wpAnyT P md ops Q S z (fuel + 1) listed a w := by
  intro fuel
  induction fuel with
  | zero =>
    intro listed a w _ hr hy H
    refine ⟨fun h => (by rw [h] at hr; cases hr), fun j hj => ?_⟩
    by_cases hji : j = i
    · subst hji; exact hy.wpOp hi ⟨fun _ h => h, H⟩
    · have := ready_mono hj hji
      rw [H.1] at this
      cases this
  | succ fuel ih =>
    intro listed a w hfree hr hy H
    have hun := (mem_ready.1 hr).1
    refine ⟨fun h => (by rw [h] at hr; cases hr), fun j hj => ?_⟩
    by_cases hji : j = i
    · subst hji; exact hy.wpOp hi ⟨fun _ h => h, H⟩
    · obtain ⟨hjun, oj, hoj, hall⟩ := mem_ready.1 hj
      have hnot : ∀ e ∈ oj.after, Region.binds md e = true → e.on ≠ i := fun e he hb heq => by
        have h3 := hall e he hb
        rw [heq, getD_both hun] at h3
        cases h3
      have h1 := H.2 j (ready_mono hj hji)
      have h2 := wpOp_put hoj (hfree j oj hoj hji hjun hnot) (fun cs b => hsel i oi cs b hi) (fun cs b => hsel j oj cs b hoj) hQ hy h1
      have hfree' : ∀ k ok, ops[k]? = some ok → k ≠ i → (listed.setIfInBounds j true).getD k true = false →
          (∀ e ∈ ok.after, Region.binds md e = true → e.on ≠ i) → oi.apart ops ok = true := fun k ok hk hki hun hno => by
        refine hfree k ok hk hki ?_ hno
        by_cases hjk : j = k
        · subst hjk; exact hjun
        · rw [getD_set_ne true hjk] at hun; exact hun
      refine wpOp_mono (fun a' w' h3 => ⟨h3.2.1, ih (listed.setIfInBounds j true) a' w' hfree' (ready_mono hr (Ne.symm hji)) h3.1 ?_⟩) h2
      rw [Array.setIfInBounds_comm _ _ hji]
      exact h3.2.2
end

section
variable {P : Program} {l : List Oper} {Q : Exit → Act → World → Prop} {S : World → Prop}
/-- What a walk holds. -/
def GT (P : Program) (l : List Oper) (Q : Exit → Act → World → Prop) (S : World → Prop) (z fuel : Nat) (listed : Array Bool) (a : Act) (w : World) : Prop := wpAnyT P .any l.toArray Q S z fuel listed a w
theorem gt_begin {id : Nat} {a : Act} {w : World} (z : Nat) (hm : P.follows .mixedOrders = true) (hlen : (l.length == l.length) = true)
    (h : GT P l Q S z l.length (Array.replicate l.length false) a w.drew) : (Code.region id l.toArray true).wp P Q a w := by
  refine wp_region_any hm (wpAny_of_T (z := z) (S := S) _ _ _ _ ?_)
  unfold GT at h
  simpa using h
theorem gt_take {i z : Nat} {oi : Oper} {v : Value} {fuel : Nat} {listed : Array Bool} {a : Act} {w : World} (hi : l[i]? = some oi) (hs : Region.noSelect l.toArray = true)
    (hsk : (Region.waitsFor .any l.toArray z i && (i != z)) = true) (hf : Region.free .any l.toArray listed i = true) (hr : (Region.ready .any l.toArray listed).contains i = true)
    (hQ : ∀ c a w, Q (.panic c) (a.put oi.dst v) w → Q (.panic c) a w) (hy : YieldsIf P l.toArray S oi v a) (hS : S w)
    (h : GT P l Q S z fuel (listed.setIfInBounds i true) (a.put oi.dst v) w) : GT P l Q S z (fuel + 1) listed a w := by
  simp only [Bool.and_eq_true, bne_iff_ne] at hsk
  have hi' : l.toArray[i]? = some oi := by simpa using hi
  exact wpAnyT_first hi' (Region.noSelect_spec hs) hQ hsk.1 hsk.2 fuel listed a w (Region.free_spec hi' hf) (by simpa using hr) hy hS h
theorem gt_pure {i z : Nat} {oi : Oper} {v : Value} {fuel : Nat} {listed : Array Bool} {a : Act} {w : World} (hi : l[i]? = some oi) (hs : Region.noSelect l.toArray = true)
    (hf : Region.free .any l.toArray listed i = true) (hr : (Region.ready .any l.toArray listed).contains i = true)
    (hQ : ∀ c a w, Q (.panic c) (a.put oi.dst v) w → Q (.panic c) a w) (hy : Yields P l.toArray oi v a)
    (h : GT P l Q S z fuel (listed.setIfInBounds i true) (a.put oi.dst v) w) : GT P l Q S z (fuel + 1) listed a w := by
  have hi' : l.toArray[i]? = some oi := by simpa using hi
  exact wpAnyT_pure hi' (Region.noSelect_spec hs) hQ fuel listed a w (Region.free_spec hi' hf) (by simpa using hr) hy h
/-- One alone may come up, and it is not the last. -/
theorem gt_one {i z : Nat} {o : Oper} {fuel : Nat} {listed : Array Bool} {a : Act} {w : World} (hi : l[i]? = some o) (hr : Region.ready .any l.toArray listed = [i]) (hiz : (i != z) = true)
    (h : ∀ K' : Act → World → Prop, Shut (∀ a w, S w → (S w → GT P l Q S z fuel (listed.setIfInBounds i true) a w) → K' a w) → if Region.wanted o (yielded l.toArray a.tmps) = true then Oper.wp P o a w K' Q else K' (a.put o.dst undef) w) : GT P l Q S z (fuel + 1) listed a w := by
  have hi' : l.toArray[i]? = some o := by simpa using hi
  refine ⟨fun h0 => (by rw [hr] at h0; cases h0), fun j hj => ?_⟩
  rw [hr] at hj
  simp at hj
  subst hj
  exact wpOp_step hi' (fun K' hK => h K' (fun a w hS hW => hK a w ⟨fun _ _ => hS, hW hS⟩))
/-- The last one. -/
theorem gt_last {z : Nat} {o : Oper} {fuel : Nat} {listed : Array Bool} {a : Act} {w : World} (hi : l[z]? = some o) (hr : Region.ready .any l.toArray listed = [z]) (hr2 : Region.ready .any l.toArray (listed.setIfInBounds z true) = [])
    (h : ∀ K' : Act → World → Prop, Shut (∀ a w, Q .normal a w → K' a w) → if Region.wanted o (yielded l.toArray a.tmps) = true then Oper.wp P o a w K' Q else K' (a.put o.dst undef) w) : GT P l Q S z (fuel + 1) listed a w := by
  have hi' : l.toArray[z]? = some o := by simpa using hi
  refine ⟨fun h0 => (by rw [hr] at h0; cases h0), fun j hj => ?_⟩
  rw [hr] at hj
  simp at hj
  subst hj
  refine wpOp_step hi' (fun K' hK => h K' (fun a w hq => hK a w ⟨fun h => absurd rfl h, ?_⟩))
  cases fuel with
  | zero => exact ⟨hr2, hq⟩
  | succ f => exact ⟨fun _ => hq, by rw [hr2]; simp⟩
end
end Go.Proofs.Ytgfeabgmllkdeaa

/-
  More steps of the text Tlr's machine: two operations may come up; a region in which every operation keeps S; an append under a guard.
-/
namespace Go.Proofs.Ytgfeabgmllkdeaa
set_option linter.unusedVariables false
set_option linter.unusedSimpArgs false
open Go.RowKit Go.Sort

section
variable {P : Program} {l : List Oper} {Q : Exit → Act → World → Prop} {S : World → Prop}
end
section
variable {P : Program} {ops : Array Oper} {Q : Exit → Act → World → Prop} {md : Region.Mode} {S : World → Prop}
end
section
variable {P : Program} {l : List Oper} {Q : Exit → Act → World → Prop} {S : World → Prop}
end
end Go.Proofs.Ytgfeabgmllkdeaa

/-
  A member under way in a box of its own: a row is appended; the answer.
-/
namespace Go.Proofs.Ytgfeabgmllkdeaa
set_option linter.unusedVariables false
set_option linter.unusedSimpArgs false
open Go.RowKit Go.Sort

theorem Try.infoRw : (Try.prog.info? 55).map (fun i => (i.zero, i.size, i.bytes)) = some (some (.agg #[.int .i64 0, .slice none 0 0, .slice none 0 0, .slice none 0 0, .bool false, .bool false, .int .i64 0, .slice none 0 0]), 8, 120) := by kernel_rfl
theorem mixed17 : Try.prog.follows .mixedOrders = true := by kernel_rfl
theorem info_partsG {P : Program} {t : TypeId} {z : Value} {s b : Nat} (h : (P.info? t).map (fun i => (i.zero, i.size, i.bytes)) = some (some z, s, b)) : ∃ i, P.info? t = some i ∧ i.zero = some z ∧ i.size = s ∧ i.bytes = b := by
  cases e : P.info? t with
  | none => rw [e] at h; cases h
  | some i =>
    rw [e] at h
    simp only [Option.map_some, Option.some.injEq, Prod.mk.injEq] at h
    exact ⟨i, rfl, h.1, h.2.1, h.2.2⟩
theorem owL_v {w : World} {x : Value} {cs : List Cel} {us : List Value} {f : Fp} (h : owL w cs us f) : owL w (.v x :: cs) (x :: us) f := ⟨x, us, fun _ => False, f, rfl, ⟨rfl, fun _ h => h⟩, h, fun _ h => absurd h id, fun b => by simp⟩
theorem owL_v' {w : World} {x : Value} {cs : List Cel} {us : List Value} {f : Fp} (h : owL w (.v x :: cs) us f) : ∃ us', us = x :: us' ∧ owL w cs us' f := by
  obtain ⟨u, us', f1, f2, rfl, ⟨rfl, h1⟩, h2, hd, hf⟩ := h
  exact ⟨us', rfl, owL_congr h2 (fun b => (hf b).trans ⟨fun h => h.elim (fun h => absurd h (h1 b)) id, .inr⟩)⟩
theorem owL_c {w : World} {c : Cel} {u : Value} {cs : List Cel} {us : List Value} {f1 f2 : Fp} (h1 : Cel.ow w c u f1) (h2 : owL w cs us f2) (hd : ∀ b, f1 b → ¬ f2 b) : owL w (c :: cs) (u :: us) (fun b => f1 b ∨ f2 b) := ⟨u, us, f1, f2, rfl, h1, h2, hd, fun b => Iff.rfl⟩
/-- The four lists of a row and its eight cells are the same thing. -/
theorem ow_rw8 {w : World} {A : Ra} {r : Rw} {f : Fp} (h : owL w (rwCels r) (rwVals A r) f) : owL w (rw8 r) (rwC A r).toList f := by
  obtain ⟨u1, us1, f1, g1, e1, o1, h2, d1, i1⟩ := h
  cases e1
  obtain ⟨u2, us2, f2, g2, e2, o2, h3, d2, i2⟩ := h2
  cases e2
  obtain ⟨u3, us3, f3, g3, e3, o3, h4, d3, i3⟩ := h3
  cases e3
  exact owL_v ⟨_, _, f1, g1, rfl, o1, ⟨_, _, f2, g2, rfl, o2, ⟨_, _, f3, g3, rfl, o3, owL_v (owL_v (owL_v h4)), d3, i3⟩, d2, i2⟩, d1, i1⟩
theorem rw8_ow {w : World} {r : Rw} {us : List Value} {f : Fp} (h : owL w (rw8 r) us f) : ∃ A : Ra, us = (rwC A r).toList ∧ owL w (rwCels r) (rwVals A r) f := by
  obtain ⟨us0, rfl, hq0⟩ := owL_v' h
  obtain ⟨u1, us1, f1, g1, rfl, o1, h2, d1, i1⟩ := hq0
  obtain ⟨u2, us2, f2, g2, rfl, o2, h3, d2, i2⟩ := h2
  obtain ⟨u3, us3, f3, g3, rfl, o3, h4, d3, i3⟩ := h3
  obtain ⟨us4, rfl, hq4⟩ := owL_v' h4
  obtain ⟨us5, rfl, hq5⟩ := owL_v' hq4
  obtain ⟨us6, rfl, hq6⟩ := owL_v' hq5
  obtain ⟨u7, us7, f7, g7, rfl, o7, ⟨rfl, h8⟩, d7, i7⟩ := hq6
  obtain ⟨ta, tc, _, rfl, _⟩ := ow_scl.1 o1
  obtain ⟨ga, gc, _, rfl, _⟩ := ow_icl.1 o2
  obtain ⟨sa, sc, _, rfl, _⟩ := ow_icl.1 o3
  obtain ⟨ma, mc, _, rfl, _⟩ := ow_icl.1 o7
  exact ⟨⟨ta, tc, ga, gc, sa, sc, ma, mc⟩, rfl, ⟨_, _, f1, g1, rfl, o1, ⟨_, _, f2, g2, rfl, o2, ⟨_, _, f3, g3, rfl, o3, ⟨_, _, f7, g7, rfl, o7, ⟨rfl, h8⟩, d7, i7⟩, d3, i3⟩, d2, i2⟩, d1, i1⟩⟩
/-- One element more on a list of structs of one's own: the cells of a new block. -/
theorem ow_pushF {P : Program} {α : Type} {F : α → List Cel} {s : Nat} (hF : ∀ x, (F x).length = s) {w : World} (t ty e : TypeId) (z : Value) (bytes : Nat) (ht : P.underlying t = some (.slice e)) (hi : (P.info? e).map (fun i => (i.zero, i.size, i.bytes)) = some (some z, s, bytes)) (hzs : z.cells.size = s) (hsz : 0 < s)
    {a : Option Addr} {c : Nat} {L : List α} {x : α} {fp fd : Fp} (hO : Cel.ow w (lcl s F L) (.slice a L.length c) fp) {vals : List Value} (hd : owL w (F x) vals fd) (hdis : ∀ b, fp b → ¬ fd b) (h1 : ∀ u ∈ vals, u.oneCell' = true)
    (nb : Nat) (T : TypeId) (hnb : w.heap[nb]? = some (.cells vals.toArray T (0, 0))) (h63 : L.length + 1 ≤ maxLen) (hbytes : (L.length + 1) * bytes ≤ 140737488355328) :
    ∃ a' c' w' fp', (Builtin.append_ #[t, t] ty #[.slice a L.length c, .slice (some ⟨nb, 0, none⟩) 1 1]).run P w = .ok (.slice a' (L.length + 1) c') w' ∧ Cel.ow w' (lcl s F (L ++ [x])) (.slice a' (L.length + 1) c') fp' ∧ Wrt fp w w' ∧ ∀ b, fp' b → fp b ∨ fd b ∨ b = w.heap.size := by
  obtain ⟨i, hi0, hz, hs, hb⟩ := info_partsG hi
  obtain ⟨a', c', w', fp', h2, h3, h4, h5⟩ := ow_push (P := P) (w := w) t ty e i z s bytes ht hi0 hz hs hb hzs hsz hO hd hdis (by rw [owL_len hd, hF]) h1 nb T hnb h63 hbytes
  refine ⟨a', c', w', fp', h2, ?_, h4, h5⟩
  unfold lcl
  rw [List.flatMap_append, List.length_append]
  simpa using h3
/-- A member under way in block o, all since w. -/
structure MO (w X : World) (o : Nat) (A : Ma) (m : Mb) (fp : Fp) : Prop where
  own : Bx X o 40 (mbC A m)
  ls : owL X (mbCels m) (mbVals A m) fp
  fpl : ∀ b, fp b → o < b
  lo : w.heap.size ≤ o
  below : Below w.heap.size w X
theorem MO.step {w X X' : World} {o : Nat} {A : Ma} {m : Mb} {fp : Fp} (h : MO w X o A m fp) (hb : Below X.heap.size X X') : MO w X' o A m fp := ⟨h.own.below hb, owL_below h.ls hb, h.fpl, h.lo, h.below.trans (hb.mono h.below.size)⟩
/-- A row is appended. -/
theorem MO.push {w X X1 : World} {o : Nat} {A : Ma} {m : Mb} {fp : Fp} (h : MO w X o A m fp) (hb : Below X.heap.size X X1) {r : Rw} {Ar : Ra} {fr : Fp} (hr : owL X1 (rwCels r) (rwVals Ar r) fr) (hfr : ∀ b, fr b → X.heap.size ≤ b) (hl : m.rows.length ≤ 1000000) :
    ∀ Y, Same Y (X1.alloc (.cells (rwC Ar r) 55)) → ∃ v' w4, (Builtin.append_ #[38, 38] 38 #[.slice A.ra m.rows.length A.rc, .slice (some ⟨X1.heap.size, 0, none⟩) 1 1]).run Try.prog Y = .ok v' w4 ∧
      ∃ a' c', v' = .slice a' (m.rows.length + 1) c' ∧ w4.cell? ⟨o, 2, none⟩ = some (.slice A.ra m.rows.length A.rc) ∧ w4.frozen? ⟨o, 2, none⟩ = false ∧ Below o X w4 ∧ Below o X (w4.setCell ⟨o, 2, none⟩ (.slice a' (m.rows.length + 1) c')) ∧ ∃ fp', MO w (w4.setCell ⟨o, 2, none⟩ (.slice a' (m.rows.length + 1) c')) o ⟨a', c', A.sa, A.sc⟩ { m with rows := m.rows ++ [r] } fp' := by
  intro Y hY
  have h1 := h.step hb
  have hbY : Below X1.heap.size X1 Y := (oneA16 X1 _).trans (hY.below.mono (oneA16 X1 _).size)
  have h2 := h1.step hbY
  have hls := h2.ls
  obtain ⟨u1, us1, f1, g1, e1, o1, l2, d1, i1⟩ := hls
  cases e1
  have hrY := ow_rw8 (owL_below hr hbY)
  have hol : o < X.heap.size := h.own.lt
  have hpl : ∀ b, fp b → b < X.heap.size := owL_lt h.ls
  have hXs := hb.size
  obtain ⟨a', c', w4, fp', k1, k2, k3, k4⟩ := ow_pushF (P := Try.prog) rw8_len (w := Y) 38 38 55 _ 120 Try.underlying38 Try.infoRw rfl (by omega) (x := r) o1 hrY (fun b hb1 hb2 => by have := hpl b ((i1 b).2 (.inl hb1)); have := hfr b hb2; omega) (by intro u hu; simp [rwC] at hu; rcases hu with h | h | h | h | h | h | h | h <;> rw [h] <;> rfl) X1.heap.size 55 (by rw [hY.heap]; exact heap_alloc_new X1 _) (by unfold maxLen; omega) (by omega)
  have hf1 : ∀ b, f1 b → o < b := fun b hb1 => h.fpl b ((i1 b).2 (.inl hb1))
  have hg1 : ∀ b, g1 b → o < b := fun b hb1 => h.fpl b ((i1 b).2 (.inr hb1))
  have hYs : X1.heap.size < Y.heap.size := by rw [hY.size]; simp
  have ho4 : Bx w4 o 40 (mbC A m) := h2.own.wrt k3 (fun hb1 => by have := hf1 _ hb1; omega)
  have hXY : Below X.heap.size X Y := hb.trans (hbY.mono hb.size)
  have b4 : Below o X w4 := k3.below (hXY.mono (by omega : o ≤ X.heap.size)) (by omega) (fun b hb1 => by have := hf1 _ hb1; omega)
  have hfp' : ∀ b, fp' b → o < b := fun b hb1 => by
    rcases k4 b hb1 with k | k | k
    · exact hf1 b k
    · have := hfr b k; omega
    · omega
  refine ⟨_, w4, k1, a', c', rfl, ho4.at 2 rfl, ho4.f 2, b4, b4.setCell (p := ⟨o, 2, none⟩) (Nat.le_refl _) _, fun b => fp' b ∨ g1 b, ?_, ?_, fun b hb1 => hb1.elim (hfp' b) (hg1 b), h.lo, ?_⟩
  · have := ho4.setC 2 (.slice a' (m.rows.length + 1) c')
    have e : (mbC A m).setIfInBounds 2 (.slice a' (m.rows.length + 1) c') = mbC ⟨a', c', A.sa, A.sc⟩ { m with rows := m.rows ++ [r] } := by simp [mbC]
    rw [e] at this
    exact this
  · have hw := Wrt.set w4 o 2 (.slice a' (m.rows.length + 1) c')
    have k2' : Cel.ow w4 (lcl 8 rw8 (m.rows ++ [r])) (.slice a' (m.rows ++ [r]).length c') fp' := by
      rw [List.length_append]
      exact k2
    exact owL_wrt (owL_c k2' (owL_wrt l2 k3 (fun b hb1 hb2 => d1 b hb2 hb1)) (fun b hb1 hb2 => by
      rcases k4 b hb1 with k | k | k
      · exact d1 b k hb2
      · have := hfr b k; have := hpl b ((i1 b).2 (.inr hb2)); omega
      · have := hpl b ((i1 b).2 (.inr hb2)); omega)) hw (fun b hb1 e => by have := hb1.elim (hfp' b) (hg1 b); omega)
  · have := h.below
    have hlo := h.lo
    exact ((this.mono (Nat.le_refl _)).trans (b4.mono hlo)).setCell (p := ⟨o, 2, none⟩) hlo _
/-- A member and a flag. -/
def AnsMf (w w' : World) (e : Ending) (m : Mb) (b : Bool) : Prop := ∃ A : Ma, e = .returned (.tuple #[mbV A m, .bool b]) ∧ NewL w w' (mbCels m) (mbVals A m)
theorem ow_lcl0 (w : World) {α : Type} (s : Nat) (F : α → List Cel) : Cel.ow w (lcl s F []) (.slice none 0 0) (fun _ => False) := ⟨none, 0, [], none, fun _ => False, rfl, OSo.nil _ _ plainN, ⟨rfl, fun _ h => h⟩, fun _ _ h => h, fun b => by simp⟩
theorem ow_mb0 (w : World) : owL w (mbCels zeroMb) (mbVals ⟨none, 0, none, 0⟩ zeroMb) (fun _ => False) :=
  owL_congr (owL_c (ow_lcl0 w 8 rw8) (owL_c (ow_none_i w) (⟨rfl, fun _ h => h⟩ : owL w [] [] (fun _ => False)) (fun _ _ h => h)) (fun _ h => absurd h id)) (fun b => by simp)
theorem ansM_zero {w w' : World} (hb : Below w.heap.size w w') : NewL w w' (mbCels zeroMb) (mbVals ⟨none, 0, none, 0⟩ zeroMb) := ⟨_, ow_mb0 w', fun b h => absurd h id, hb⟩
theorem wrt5 (w : World) (g : Nat) {a b c d e : Value} : Wrt (fun x => x = g) w (((((w.setCell ⟨g, 0, none⟩ a).setCell ⟨g, 1, none⟩ b).setCell ⟨g, 2, none⟩ c).setCell ⟨g, 3, none⟩ d).setCell ⟨g, 4, none⟩ e) :=
  ((((Wrt.set w g 0 a).trans (Wrt.set _ g 1 b) (fun _ _ h => h)).trans (Wrt.set _ g 2 c) (fun _ _ h => h)).trans (Wrt.set _ g 3 d) (fun _ _ h => h)).trans (Wrt.set _ g 4 e) (fun _ _ h => h)
theorem Bx.f5 {w : World} {B : Nat} {T : TypeId} {cs : Array Value} (h : Bx w B T cs) : w.frozen? ⟨B, 0, none⟩ = false ∧ w.frozen? ⟨B, 1, none⟩ = false ∧ w.frozen? ⟨B, 2, none⟩ = false ∧ w.frozen? ⟨B, 3, none⟩ = false ∧ w.frozen? ⟨B, 4, none⟩ = false := ⟨h.f 0, h.f 1, h.f 2, h.f 3, h.f 4⟩
/-- The answer's room (block r) is written with what stands in the box. -/
theorem MO.ans {w X : World} {o r : Nat} {A : Ma} {m : Mb} {fp : Fp} (h : MO w X o A m fp) (hr : w.heap.size ≤ r) (hro : r ≤ o) {a b c d e : Value} :
    NewL w (((((X.setCell ⟨r, 0, none⟩ a).setCell ⟨r, 1, none⟩ b).setCell ⟨r, 2, none⟩ c).setCell ⟨r, 3, none⟩ d).setCell ⟨r, 4, none⟩ e) (mbCels m) (mbVals A m) :=
  ⟨fp, owL_wrt h.ls (wrt5 X r) (fun b hb e => by have := h.fpl b hb; omega), fun b hb => by have := h.fpl b hb; have := h.lo; omega, (wrt5 X r).below h.below h.below.size (fun b e => by omega)⟩
end Go.Proofs.Ytgfeabgmllkdeaa

/-
  The specification's l16Copy.
-/
namespace Go.Proofs.Ytgfeabgmllkdeaa
set_option linter.unusedVariables false
set_option linter.unusedSimpArgs false
open Go.RowKit Go.Sort

attribute [local irreducible] sv
end Go.Proofs.Ytgfeabgmllkdeaa

/-
  The specification's l17Copy; what a right member is small enough for.
-/
namespace Go.Proofs.Ytgfeabgmllkdeaa
set_option linter.unusedVariables false
set_option linter.unusedSimpArgs false
open Go.RowKit Go.Sort

theorem pair_len {hi : Int} : ∀ {l : List Int} {lo : Int}, l.Pairwise (· < ·) → (∀ x ∈ l, lo ≤ x ∧ x < hi) → (l.length : Int) ≤ max 0 (hi - lo)
  | [], lo, _, _ => by simp; omega
  | x :: l, lo, hp, h => by
    have h1 := List.pairwise_cons.1 hp
    have hx := h x List.mem_cons_self
    have := pair_len (lo := x + 1) h1.2 (fun y hy => ⟨by have := h1.1 y hy; omega, (h y (List.mem_cons_of_mem _ hy)).2⟩)
    simp only [List.length_cons]
    omega
theorem OkR.sl {r : Rw} {n : Nat} (h : OkR r n) : r.sus.length ≤ n := by
  have := pair_len (lo := 0) (hi := (n : Int)) (ris_iff.1 h.ris) h.sus
  omega
theorem OkR.ml {r : Rw} {n : Nat} (h : OkR r n) : r.trm.length ≤ n := by
  cases e : r.rdy with
  | true => have := (h.rdy e).2.2.2.1; omega
  | false => rw [(h.not e).2]; simp
theorem OkM.rowOk {m : Mb} {i n : Nat} (h : OkM m i n) : ∀ r ∈ m.rows, OkR r n := by
  intro r hr
  obtain ⟨j, hj, rfl⟩ := List.mem_iff_getElem.1 hr
  have := h.ok j (by rw [← h.len]; exact hj)
  simpa [rowN, List.getD, hj] using this
end Go.Proofs.Ytgfeabgmllkdeaa

/-
  A member that is worked on through a pointer: its own cells, its rows, one field of one row.
-/
namespace Go.Proofs.Ytgfeabgmllkdeaa
set_option linter.unusedVariables false
set_option linter.unusedSimpArgs false
open Go.RowKit Go.Sort

theorem OkR.fit {r : Rw} {n : Nat} (h : OkR r n) : FitR r := by
  have h5 := h.n5
  have ok : ∀ v, okB v = true → Fits v := fun v h1 x hx => by
    simp only [okB, Bool.and_eq_true, decide_eq_true_eq, List.all_eq_true] at h1
    have := inB7.1 (h1.2 x hx)
    omega
  refine ⟨ok _ h.got, fun x hx => by have := h.sus x hx; omega, ?_⟩
  cases e : r.rdy with
  | true => exact ok _ (h.rdy e).2.2.1
  | false => rw [(h.not e).2]; exact fun x hx => absurd hx List.not_mem_nil
theorem OkM.fit {m : Mb} {i n : Nat} (h : OkM m i n) : FitM m := ⟨fun r hr => (h.rowOk r hr).fit, fun x hx => by
  obtain ⟨j, hj, rfl⟩ := List.mem_iff_getElem.1 hx
  have := (h.sg j hj).1
  simp [el, hj] at this
  omega⟩
end Go.Proofs.Ytgfeabgmllkdeaa

/-
  Lists of one's own: one element more, one element anew (general).
-/
namespace Go.Proofs.Ytgfeabgmllkdeaa
set_option linter.unusedVariables false
set_option linter.unusedSimpArgs false
open Go.RowKit Go.Sort

end Go.Proofs.Ytgfeabgmllkdeaa

/-
  A region that draws its order, whose last operations (a store, say) come up in one order alone and whose others only read or call what only reads or lays blocks of its own: one walk in the order of the text serves every order.
-/
namespace Go.Proofs.Ytgfeabgmllkdeaa
set_option linter.unusedSimpArgs false
set_option linter.unusedVariables false
open Go.RowKit Go.Sort

section
variable {P : Program} {ops : Array Oper} {md : Region.Mode} {C : World → Prop}
/-- The head of the region in whatever order, each operation quiet in the class; L: what holds where the head is done. -/
def HeadQ (P : Program) (md : Region.Mode) (ops : Array Oper) (C : World → Prop) (n : Nat) (L : Array Bool → Act → Prop) : Nat → Array Bool → Act → Prop
  | 0, listed, a => L listed a
  | f + 1, listed, a => Region.ready md ops listed ≠ [] ∧ ∀ i ∈ Region.ready md ops listed, i < n ∧ qOp P ops C i (HeadQ P md ops C n L f (listed.setIfInBounds i true)) a
theorem any_of_headQ {n g : Nat} {L : Array Bool → Act → Prop} {Q : Exit → Act → World → Prop} (hL : ∀ listed a w, C w → L listed a → wpAny P md ops Q g listed a w) (f : Nat) :
    ∀ (listed : Array Bool) (a : Act) (w : World), C w → HeadQ P md ops C n L f listed a → wpAny P md ops Q (f + g) listed a w := by
  induction f with
  | zero => intro listed a w hw h; rw [Nat.zero_add]; exact hL _ _ _ hw h
  | succ f ih =>
    intro listed a w hw h
    rw [show f + 1 + g = (f + g) + 1 by omega]
    exact ⟨fun h0 => absurd h0 h.1, fun i hi => wpOp_of_qOp hw (fun a' w' hw' h' => ih _ a' w' hw' h') (h.2 i hi).2⟩
theorem headQ_first {n i : Nat} {oi : Oper} {v : Value} {L : Array Bool → Act → Prop} (hi : ops[i]? = some oi) (hsel : ∀ (j : Nat) (o : Oper) cs b, ops[j]? = some o → o.op ≠ .select cs b)
    (hs : Region.sinkB md ops n = true) (hc : Region.chainB md ops n = true) (hn : n < ops.size) (hin : i < n) (hdone : ∀ listed a, L listed a → ∀ j ∈ Region.ready md ops listed, n ≤ j) (f : Nat) :
    ∀ (listed : Array Bool) (a : Act), HeadInv md ops n listed →
      (∀ j oj, ops[j]? = some oj → j ≠ i → listed.getD j true = false → (∀ e ∈ oj.after, Region.binds md e = true → e.on ≠ i) → oi.apart ops oj = true) →
      i ∈ Region.ready md ops listed → YieldsIn P ops C oi v a →
      HeadQ P md ops C n L f (listed.setIfInBounds i true) (a.put oi.dst v) → HeadQ P md ops C n L (f + 1) listed a := by
  induction f with
  | zero =>
    intro listed a inv _ hr hy H
    have hun := (mem_ready.1 hr).1
    refine ⟨fun h => (by rw [h] at hr; cases hr), fun j hj => ?_⟩
    have hjn : j < n := Nat.lt_of_not_le fun h => absurd hj (tail_waits hs hc hn inv _ i rfl hin hun j h)
    refine ⟨hjn, ?_⟩
    by_cases hji : j = i
    · subst hji; exact hy.qOp hi H
    · have := hdone _ _ H j (ready_mono hj hji)
      omega
  | succ f ih =>
    intro listed a inv hfree hr hy H
    have hun := (mem_ready.1 hr).1
    refine ⟨fun h => (by rw [h] at hr; cases hr), fun j hj => ?_⟩
    have hjn : j < n := Nat.lt_of_not_le fun h => absurd hj (tail_waits hs hc hn inv _ i rfl hin hun j h)
    refine ⟨hjn, ?_⟩
    by_cases hji : j = i
    · subst hji; exact hy.qOp hi H
    · have h1 := (H.2 j (ready_mono hj hji)).2
      obtain ⟨hjun, oj, hoj, hall⟩ := mem_ready.1 hj
      have hnot : ∀ e ∈ oj.after, Region.binds md e = true → e.on ≠ i := fun e he hb heq => by
        have h3 := hall e he hb
        rw [heq, getD_both hun] at h3
        cases h3
      have h2 := qOp_put hoj (hfree j oj hoj hji hjun hnot) (fun cs b => hsel i oi cs b hi) (fun cs b => hsel j oj cs b hoj) hy h1
      refine qOp_mono (fun a' h3 => ih (listed.setIfInBounds j true) a' (inv.set hj hjn) (fun k ok hk hki hu hno => hfree k ok hk hki ?_ hno) (ready_mono hr (Ne.symm hji)) h3.1 ?_) h2
      · by_cases hjk : j = k
        · subst hjk; exact hjun
        · rw [getD_set_ne true hjk] at hu; exact hu
      · rw [Array.setIfInBounds_comm _ _ hji]
        exact h3.2
theorem headQ_lex {n g : Nat} {Lq : Act → Prop} (hsel : Region.noSelect ops = true) (hs : Region.sinkB md ops n = true) (hc : Region.chainB md ops n = true) (hn : n < ops.size) :
    ∀ (l : List Oper) (k : Nat) (listed : Array Bool) (a : Act), (∀ j, j < l.length → l[j]? = ops[k + j]?) → k + l.length = n → HeadInv md ops n listed →
    Region.lexHead md ops g l.length k listed = true → wpQuiet P ops C Lq l a → HeadQ P md ops C n (fun listed' a' => Region.seqB md ops g n listed' = true ∧ Lq a') l.length listed a
  | [], k, listed, a, _, hk, _, hB, h => by
    have : k = n := by simpa using hk
    subst this
    exact ⟨by simpa [Region.lexHead] using hB, h⟩
  | o :: l, k, listed, a, hl, hk, inv, hB, h => by
    have h0 : ops[k]? = some o := by simpa using (hl 0 (by simp)).symm
    simp only [List.length_cons, Region.lexHead, Bool.and_eq_true] at hB
    obtain ⟨⟨hr, hf⟩, hB'⟩ := hB
    have hkn : k < n := by simp only [List.length_cons] at hk; omega
    have hr' : k ∈ Region.ready md ops listed := by simpa using hr
    have hst : qOp P ops C k (wpQuiet P ops C Lq l) a := by unfold qOp; simp only [h0]; exact h
    obtain ⟨v, hy, hK⟩ := yieldsIn_of_qOp h0 hst
    exact headQ_first h0 (Region.noSelect_spec hsel) hs hc hn hkn (fun listed' a' hL => seqB_ready hL.1) l.length listed a inv (Region.free_spec h0 hf) hr' hy
      (headQ_lex hsel hs hc hn l (k + 1) _ _ (fun j hj => by have := hl (j + 1) (by simp; omega); simpa [Nat.add_assoc, Nat.add_comm 1 j] using this) (by simp only [List.length_cons] at hk; omega) (inv.set hr' hkn) hB' hK)
end
/-- The law: the first n operations quiet in the class, the rest in their order. -/
theorem wp_region_quiet_tail {P : Program} {C : World → Prop} {id : Nat} {Q : Exit → Act → World → Prop} {a : Act} {w : World} {l : List Oper} (n : Nat) (hm : P.follows .mixedOrders = true) (hB : Region.lexTailB .any l.toArray n = true) (hC : C (w.drewN 1))
    (h : wpQuiet P l.toArray C (fun a' => ∀ w', C w' → wpList P l.toArray Q (l.drop n) a' w') (l.take n) a) : (Code.region id l.toArray true).wp P Q a w := by
  simp only [Region.lexTailB, Bool.and_eq_true, decide_eq_true_eq] at hB
  obtain ⟨⟨⟨⟨hsel, hn⟩, hs⟩, hc⟩, hlex⟩ := hB
  have htl : (l.take n).length = n := by have : n < l.length := by simpa using hn
                                         simp; omega
  have hdl : (l.drop n).length = l.toArray.size - n := by simp
  have inv0 : HeadInv .any l.toArray n (Array.replicate l.toArray.size false) :=
    ⟨by simp, fun j oj _ hl => (by rw [getD_replicate_false] at hl; cases hl), fun t _ ht => getD_in (by simpa using ht) (getD_replicate_false _ _)⟩
  have H := headQ_lex (md := .any) (g := l.toArray.size - n) hsel hs hc hn (l.take n) 0 _ a (fun j hj => by
    have hj' : j < n := by rw [htl] at hj; exact hj
    simp [hj']) (by simpa using htl) inv0 (by rw [htl]; exact hlex) h
  refine wp_region_any hm ?_
  have := any_of_headQ (C := C) (Q := Q) (g := l.toArray.size - n) (fun listed a' w' hw' hL => by
    have := wpAny_of_seq (md := .any) (Q' := Q) (l.drop n) n listed a' w' (fun j => by simp [List.getElem?_drop]) (by rw [hdl]; exact hL.1) (hL.2 w' hw')
    rwa [hdl] at this) _ _ _ (w.drewN 1) hC H
  rw [htl, show n + (l.toArray.size - n) = l.toArray.size by have : n < l.toArray.size := hn; omega] at this
  exact this
end Go.Proofs.Ytgfeabgmllkdeaa

/-
  The specification's l17Say.
-/
namespace Go.Proofs.Ytgfeabgmllkdeaa
set_option linter.unusedVariables false
set_option linter.unusedSimpArgs false
open Go.RowKit Go.Sort

attribute [local irreducible] sv
end Go.Proofs.Ytgfeabgmllkdeaa

/-
  The specification's l17Doubt.
-/
namespace Go.Proofs.Ytgfeabgmllkdeaa
set_option linter.unusedVariables false
set_option linter.unusedSimpArgs false
open Go.RowKit Go.Sort

end Go.Proofs.Ytgfeabgmllkdeaa

/-
  A whole row is stored; the specification's l17Heard.
-/
namespace Go.Proofs.Ytgfeabgmllkdeaa
set_option linter.unusedVariables false
set_option linter.unusedSimpArgs false
open Go.RowKit Go.Sort

theorem Wrt.setCells (g : Nat) : ∀ (vs : List Value) (o : Nat) (w : World), Wrt (fun b => b = g) w (w.setCells g o vs)
  | [], o, w => Wrt.refl _ _
  | v :: vs, o, w => (Wrt.set w g o v).trans (Wrt.setCells g vs (o + 1) _) (fun _ _ h => h)
theorem frz_setCells (g : Nat) : ∀ (vs : List Value) (o : Nat) (w : World) (x : Addr), (w.setCells g o vs).frozen? x = w.frozen? x
  | [], o, w, x => rfl
  | v :: vs, o, w, x => by rw [World.setCells, frz_setCells g vs (o + 1), World.frozen?_setCell]
/-- The whole place becomes another thing, in new memory. -/
theorem Plc.all {w w1 : World} {B o : Nat} {cs cs' : List Cel} {fp f' : Fp} {vs' : List Value} (h : Plc w B o cs fp) (hb : Below w.heap.size w w1) (h' : owL w1 cs' vs' f') (hl : cs'.length = cs.length) (hf : ∀ b, f' b → w.heap.size ≤ b) : Bcm w (w1.setCells B o vs') B o cs' fp := by
  obtain ⟨vs, h1, h2, h3⟩ := h
  have e := hb.block B h1.lt
  have hP1 := h1.of_block e hb.size
  have hlen := owL_len h2
  have hlen' := owL_len h'
  have hw := Wrt.setCells B vs' o w1
  have hlt := h1.lt
  have hf'B : ¬ f' B := fun k => by have := hf B k; omega
  have hsome : ∀ j, j < vs'.length → (w1.cell? ⟨B, o + j, none⟩).isSome = true := fun j hj => by
    rw [hP1.cell j (by omega), List.getElem?_eq_getElem (by omega)]
    rfl
  refine ⟨⟨f', ⟨vs', ⟨fun j hj => ?_, fun j hj => ?_, Nat.lt_of_lt_of_le hP1.lt hw.size⟩, owL_wrt h' hw (fun b hb' e' => hf'B (e' ▸ hb')), hf'B⟩, fun b hb' => .inr (hf b hb')⟩, fun j hj => ?_, fun j => ?_, ?_⟩
  · rw [World.cell?_setCells_in B vs' o w1 hsome j hj, List.getElem?_eq_getElem hj]
  · rw [frz_setCells]; exact hP1.free j (by omega)
  · rw [World.cell?_setCells_out B vs' o w1 _ (fun _ _ => by simp only; omega)]
    exact World.cell?_of_block e
  · rw [frz_setCells]; simp only [World.frozen?, e]
  · exact (Wrt.of_below (f := fun b => fp b ∨ b = B) hb).trans hw (fun b _ k => .inr k)
end Go.Proofs.Ytgfeabgmllkdeaa

/-
  The laws' own toRowS and toMember.
-/
namespace Go.Proofs.Ytgfeabgmllkdeaa
set_option linter.unusedVariables false
set_option linter.unusedSimpArgs false
open Go.RowKit Go.Sort

end Go.Proofs.Ytgfeabgmllkdeaa

/-
  The laws' own toMember.
-/
namespace Go.Proofs.Ytgfeabgmllkdeaa
set_option linter.unusedVariables false
set_option linter.unusedSimpArgs false
open Go.RowKit Go.Sort

end Go.Proofs.Ytgfeabgmllkdeaa

/-
  The laws' own markRowS: each row of a list is marked, in its place.
-/
namespace Go.Proofs.Ytgfeabgmllkdeaa
set_option linter.unusedVariables false
set_option linter.unusedSimpArgs false
open Go.RowKit Go.Sort

/-- One cell of a place that was written before. -/
theorem Bcm.at {w X : World} {B o : Nat} {cs : List Cel} {fp : Fp} (h : Bcm w X B o cs fp) {j : Nat} {c : Cel} (hj : cs[j]? = some c) : ∃ u f, X.cell? ⟨B, o + j, none⟩ = some u ∧ X.frozen? ⟨B, o + j, none⟩ = false ∧ Cel.ow X c u f ∧
    ∀ (X1 : World) (c' : Cel) (u' : Value) (f' : Fp), Wrt f X X1 → Cel.ow X1 c' u' f' → (∀ b, f' b → f b ∨ X.heap.size ≤ b) → X1.cell? ⟨B, o + j, none⟩ = some u ∧ X1.frozen? ⟨B, o + j, none⟩ = false ∧ Bcm w (X1.setCell ⟨B, o + j, none⟩ u') B o (cs.set j c') fp ∧ (u' = u → Bcm w X1 B o (cs.set j c') fp) := by
  obtain ⟨fp1, hp, _, hgo⟩ := h.next
  obtain ⟨u, f, h1, h2, h3, h4, h5, h6⟩ := hp.at hj
  refine ⟨u, f, h1, h2, h3, fun X1 c' u' f' hw hc hf => ?_⟩
  obtain ⟨k1, k2, k3, k4⟩ := h6 X1 c' u' f' hw hc hf
  exact ⟨k1, k2, hgo _ _ (by simp) k3, fun e => hgo _ _ (by simp) (k4 e)⟩
/-- A plain cell of it is stored. -/
theorem Bcm.put {w X : World} {B o : Nat} {cs : List Cel} {fp : Fp} (h : Bcm w X B o cs fp) {j : Nat} {x : Value} (hj : cs[j]? = some (.v x)) (y : Value) : X.cell? ⟨B, o + j, none⟩ = some x ∧ X.frozen? ⟨B, o + j, none⟩ = false ∧ Bcm w (X.setCell ⟨B, o + j, none⟩ y) B o (cs.set j (.v y)) fp := by
  obtain ⟨u, f, h1, h2, ⟨rfl, _⟩, h4⟩ := h.at hj
  exact ⟨h1, h2, (h4 X (.v y) y (fun _ => False) (Wrt.refl _ _) ⟨rfl, fun _ h => h⟩ (fun b hb => hb.elim)).2.2.1⟩
def m3 (k : Int) : Bool := k % 3 == 0
/-- A row with marks from k on. -/
def mk8 (r : Rw) (k : Nat) : Rw :=
  { ver := (k : Int), txt := marksS r.txt.length (k + 1), got := marks r.got.length (k + 1 + r.txt.length), sus := marks r.sus.length (k + 1 + r.txt.length + r.got.length), wed := m3 ((k + 1 + r.txt.length + r.got.length + r.sus.length : Nat) : Int), rdy := m3 (((k + 1 + r.txt.length + r.got.length + r.sus.length : Nat) : Int) + 1), by_ := ((k + 1 + r.txt.length + r.got.length + r.sus.length : Nat) : Int) + 1 + 1, trm := marks r.trm.length (k + 1 + r.txt.length + r.got.length + r.sus.length + 1 + 1 + 1) }
def cnt8 (r : Rw) : Nat := 1 + r.txt.length + r.got.length + r.sus.length + 1 + 1 + 1 + r.trm.length
/-- How many marks the first k rows bear. -/
def cP (R : List Rw) (k : Nat) : Nat := ((R.take k).map cnt8).sum
theorem cP_next {R : List Rw} {k : Nat} (hk : k < R.length) : cP R (k + 1) = cP R k + cnt8 (rowN R k) := by
  have e : rowN R k = R[k] := by simp [rowN, List.getD, hk]
  unfold cP
  rw [List.take_succ_eq_append_getElem hk, List.map_append, List.sum_append, e]
  simp
theorem cP_mono (R : List Rw) {a b : Nat} (h : a ≤ b) : cP R a ≤ cP R b := by
  unfold cP
  obtain ⟨c, rfl⟩ := Nat.exists_eq_add_of_le h
  rw [List.take_add, List.map_append, List.sum_append]
  omega
/-- The rows, the first j of them with marks. -/
def mkP (R : List Rw) (k : Nat) : Nat → List Rw
  | 0 => R
  | j + 1 => (mkP R k j).set j (mk8 (rowN R j) (k + cP R j))
theorem mkP_len (R : List Rw) (k : Nat) : ∀ j, (mkP R k j).length = R.length
  | 0 => rfl
  | j + 1 => by rw [mkP, List.length_set, mkP_len R k j]
theorem mkP_row {R : List Rw} {k : Nat} : ∀ {j i : Nat}, j ≤ R.length → rowN (mkP R k j) i = if i < j then mk8 (rowN R i) (k + cP R i) else rowN R i
  | 0, i, _ => by simp [mkP]
  | j + 1, i, h => by
    rw [mkP, rowN_set (by rw [mkP_len]; omega), mkP_row (by omega)]
    by_cases e : i = j
    · subst e; rw [if_pos rfl, if_pos (by omega)]
    · rw [if_neg e]
      by_cases h2 : i < j
      · rw [if_pos h2, if_pos (by omega)]
      · rw [if_neg h2, if_neg (by omega)]
set_option maxRecDepth 100000 in
set_option maxHeartbeats 6400000 in
theorem markRs_ow (a : Option Addr) (cap k0 : Nat) (R : List Rw) (fp : Fp) (w : World) (h : Cel.ow w (lcl 8 rw8 R) (.slice a R.length cap) fp) (hk1 : 1 ≤ k0) (hk : k0 + cP R R.length ≤ 10000000) (hm : R.length ≤ maxLen) :
    Calls Try.prog 81 #[.slice a R.length cap, .int .i64 (k0 : Int)] w fun e w' => e = .returned (.int .i64 ((k0 + cP R R.length : Nat) : Int)) ∧ ∃ fp', Cel.ow w' (lcl 8 rw8 (mkP R k0 R.length)) (.slice a R.length cap) fp' ∧ (∀ b, fp' b → fp b ∨ w.heap.size ≤ b) ∧ Wrt fp w w' := by
  unfold maxLen at hm
  have HH : Hid (Cel.ow w (lcl 8 rw8 R) (.slice a R.length cap) fp) := h
  clear h
  go_enter Try.func81, Try.ntmps81
  go_wp2_with fail
  go_loopw [1, 5] (fun kv v wr => ∃ (j K : Nat) (fpj : Fp), j ≤ R.length ∧ v = .int .i64 (j : Int) ∧ kv = .int .i64 (K : Int) ∧ Hid (K = k0 + cP R j) ∧ Cel.ow wr (lcl 8 rw8 (mkP R k0 j)) (.slice a R.length cap) fpj ∧ (∀ b, fpj b → fp b ∨ w.heap.size ≤ b) ∧ Wrt fp w wr) (fun _ v _ => R.length - (intOf v).toNat)
  case atStart => exact ⟨0, k0, fp, Nat.zero_le _, rfl, rfl, by simp [Hid, cP], HH.out, fun b hb => .inl hb, Wrt.refl _ _⟩
  case round =>
    obtain ⟨j, K0, fpj, hj, rfl, rfl, hK, ho, hfj, hwj⟩ := hrel
    have HWj : Hid (Wrt fp w wr) := hwj
    have HFj : Hid (∀ b, fpj b → fp b ∨ w.heap.size ≤ b) := hfj
    by_cases hlt : j < R.length
    · have j1 : (j : Int) < (R.length : Int) := by omega
      have j0 : (0 : Int) ≤ (j : Int) := by omega
      have hlen := mkP_len R k0 j
      have hat : (mkP R k0 j)[j]? = some (rowN R j) := by
        have := mkP_row (k := k0) (i := j) hj
        rw [if_neg (Nat.lt_irrefl _)] at this
        rw [← this]
        simp [rowN, List.getD, hlen, hlt]
      rw [← hlen] at ho
      obtain ⟨g, off, f, rfl, hfg, hfs, hP, hglt, hput⟩ := ow_elF rw8_len (by omega) ho hat
      have hput := fun X => hput X (mk8 (rowN R j) (k0 + cP R j))
      rw [show (mkP R k0 j).set j (mk8 (rowN R j) (k0 + cP R j)) = mkP R k0 (j + 1) from rfl, hlen] at hput
      rw [← hK.out] at hput
      have hKb : K0 + cnt8 (rowN R j) ≤ 10000000 := by
        have h1 := cP_mono R (show j + 1 ≤ R.length from hlt)
        rw [cP_next hlt] at h1
        have := hK.out
        omega
      have HKn : Hid (K0 + cnt8 (rowN R j) = k0 + cP R (j + 1)) := by rw [Hid, cP_next hlt, hK.out]; omega
      have hK1 : 1 ≤ K0 := by have := hK.out; omega
      have HPut : Hid (∀ X, Bcm wr X g (off + j * 8) (rw8 (mk8 (rowN R j) K0)) f → ∃ fp', Cel.ow X (lcl 8 rw8 (mkP R k0 (j + 1))) (.slice (some ⟨g, off, none⟩) R.length cap) fp' ∧ (∀ b, fp' b → fpj b ∨ wr.heap.size ≤ b) ∧ Wrt fpj wr X) := hput
      have B0 : Bcm wr wr g (off + j * 8) (rw8 (rowN R j)) f := Bcm.refl hP
      clear ho hput hP hat hlen hfj hwj hK hfs
      generalize rowN R j = r at *
      obtain ⟨v0, z0, B1⟩ := B0.put (j := 0) (x := .int .i64 r.ver) rfl (.int .i64 (K0 : Int))
      simp only [Nat.add_zero] at v0 z0 B1
      have HB1 : Hid (Bcm wr (wr.setCell ⟨g, off + j * 8, none⟩ (.int .i64 (K0 : Int))) g (off + j * 8) ((rw8 r).set 0 (.v (.int .i64 (K0 : Int)))) f) := B1
      unfold cnt8 at hKb
      obtain ⟨Ka, hKa⟩ : ∃ Ka : Nat, Hid (Ka = K0 + 1) := ⟨_, rfl⟩
      have eKa : (Ka : Int) = (K0 : Int) + 1 := by have := hKa.out; omega
      obtain ⟨u1, f1, t1, _, ho1, hp1⟩ := B1.at (j := 1) (c := scl r.txt) rfl
      have hM1 := markS_ow u1 Ka r.txt f1 _ ho1 (by have := hKa.out; omega) (by have := hKa.out; omega) (by omega)
      clear B0 B1 ho1
      obtain ⟨K2, hK2⟩ : ∃ K2 : Nat, Hid (K2 = Ka + r.txt.length) := ⟨_, rfl⟩
      have eK2 : (Ka : Int) + (r.txt.length : Int) = (K2 : Int) := by have := hK2.out; omega
      rw [eK2, eKa] at hM1
      go_wp2_with fail
      refine hM1.mono ?_
      rintro e X1 ⟨rfl, hm1, hw1⟩
      have B2 := (hp1 X1 _ u1 f1 hw1 hm1 (fun b hb => .inl hb)).2.2.2 rfl
      clear hM1 hp1 hm1 hw1 t1 v0 z0 eKa eK2
      obtain ⟨u2, f2, t2, _, ho2, hp2⟩ := B2.at (j := 2) (c := icl r.got) rfl
      have hM2 := markI_ow u2 K2 r.got f2 _ ho2 (by have := hKa.out; have := hK2.out; omega) (by omega)
      obtain ⟨K3, hK3⟩ : ∃ K3 : Nat, Hid (K3 = K2 + r.got.length) := ⟨_, rfl⟩
      have eK3 : (K2 : Int) + (r.got.length : Int) = (K3 : Int) := by have := hK3.out; omega
      rw [eK3] at hM2
      clear B2 ho2
      go_wp2_with fail
      refine hM2.mono ?_
      rintro e X2 ⟨rfl, hm2, hw2⟩
      have B3 := (hp2 X2 _ u2 f2 hw2 hm2 (fun b hb => .inl hb)).2.2.2 rfl
      clear hM2 hp2 hm2 hw2 t2 eK3
      obtain ⟨u3, f3, t3, _, ho3, hp3⟩ := B3.at (j := 3) (c := icl r.sus) rfl
      have hM3 := markI_ow u3 K3 r.sus f3 _ ho3 (by have := hKa.out; have := hK2.out; have := hK3.out; omega) (by omega)
      obtain ⟨K4, hK4⟩ : ∃ K4 : Nat, Hid (K4 = K3 + r.sus.length) := ⟨_, rfl⟩
      have eK4 : (K3 : Int) + (r.sus.length : Int) = (K4 : Int) := by have := hK4.out; omega
      rw [eK4] at hM3
      clear B3 ho3
      go_wp2_with fail
      refine hM3.mono ?_
      rintro e X3 ⟨rfl, hm3, hw3⟩
      have B4 := (hp3 X3 _ u3 f3 hw3 hm3 (fun b hb => .inl hb)).2.2.2 rfl
      clear hM3 hp3 hm3 hw3 t3 eK4
      have hK4b : K4 + 3 ≤ K0 + (1 + r.txt.length + r.got.length + r.sus.length + 1 + 1 + 1 + r.trm.length) := by have := hKa.out; have := hK2.out; have := hK3.out; have := hK4.out; omega
      obtain ⟨v4, z4, B5⟩ := B4.put (j := 4) (x := .bool r.wed) rfl (.bool ((K4 : Int) % 3 == 0))
      obtain ⟨v5, z5, B6⟩ := B5.put (j := 5) (x := .bool r.rdy) rfl (.bool (((K4 : Int) + 1) % 3 == 0))
      obtain ⟨v6, z6, B7⟩ := B6.put (j := 6) (x := .int .i64 r.by_) rfl (.int .i64 ((K4 : Int) + 1 + 1))
      obtain ⟨u7, f7, t7, _, ho7, hp7⟩ := B7.at (j := 7) (c := icl r.trm) rfl
      obtain ⟨K7, hK7⟩ : ∃ K7 : Nat, Hid (K7 = K4 + 1 + 1 + 1) := ⟨_, rfl⟩
      have eK7 : (K7 : Int) = (K4 : Int) + 1 + 1 + 1 := by have := hK7.out; omega
      have hM7 := markI_ow u7 K7 r.trm f7 _ ho7 (by have := hK7.out; omega) (by omega)
      obtain ⟨K8, hK8⟩ : ∃ K8 : Nat, Hid (K8 = K7 + r.trm.length) := ⟨_, rfl⟩
      have eK8 : (K7 : Int) + (r.trm.length : Int) = (K8 : Int) := by have := hK8.out; omega
      rw [eK8, eK7] at hM7
      have HK8 : Hid (K8 = k0 + cP R (j + 1)) := by
        have h1 := HKn.out
        unfold cnt8 at h1
        have := hKa.out; have := hK2.out; have := hK3.out; have := hK4.out; have := hK7.out; have := hK8.out
        rw [Hid]
        omega
      have wj : wrap64 ((j : Int) + 1) = (j : Int) + 1 := by unfold wrap64; omega
      clear B4 B5 B6 B7 ho7 HB1 eK8 eK7
      go_wp2_with fail
      refine hM7.mono ?_
      rintro e X7 ⟨rfl, hm7, hw7⟩
      have B8 := (hp7 X7 _ u7 f7 hw7 hm7 (fun b hb => .inl hb)).2.2.2 rfl
      have hE : rw8 (mk8 r K0) = (((((((((rw8 r).set 0 (.v (.int .i64 (K0 : Int)))).set 1 (scl (marksS r.txt.length Ka))).set 2 (icl (marks r.got.length K2))).set 3 (icl (marks r.sus.length K3))).set 4 (.v (.bool ((K4 : Int) % 3 == 0)))).set 5 (.v (.bool (((K4 : Int) + 1) % 3 == 0)))).set 6 (.v (.int .i64 ((K4 : Int) + 1 + 1)))).set 7 (icl (marks r.trm.length K7))) := by
        rw [hK7.out, hK4.out, hK3.out, hK2.out, hKa.out]
        rfl
      rw [← hE] at B8
      obtain ⟨fp', n1, n2, n3⟩ := HPut.out X7 B8
      have HN1 : Hid (Cel.ow X7 (lcl 8 rw8 (mkP R k0 (j + 1))) (.slice (some ⟨g, off, none⟩) R.length cap) fp') := n1
      have HN2 : Hid (∀ b, fp' b → fpj b ∨ wr.heap.size ≤ b) := n2
      have HN3 : Hid (Wrt fpj wr X7) := n3
      clear hM7 hp7 hm7 hw7 t7 v4 z4 v5 z5 v6 z6 B8 hE n1 n2 n3 HPut
      have hws := HWj.out.size
      clear hKb hK4b hk hK1 hk1
      go_wp2
      go_roundw
      case rel => exact ⟨j + 1, K8, fp', by omega, by go_num, rfl, HK8, HN1.out, fun b hb => by
        rcases HN2.out b hb with h | h
        · exact HFj.out b h
        · exact .inr (by omega), HWj.out.trans HN3.out (fun b hb h => by
          rcases HFj.out b h with h | h
          · exact h
          · omega)⟩
      case measure => simp [intOf]; omega
    · obtain rfl : j = R.length := by omega
      have k1 : ¬ ((R.length : Int) < (R.length : Int)) := by omega
      have HE : Hid (Cel.ow wr (lcl 8 rw8 (mkP R k0 R.length)) (.slice a R.length cap) fpj) := ho
      clear ho hfj hwj hk hk1
      go_wp2
      go_ret
      exact ⟨ret_int (by rw [hK.out]; omega), fpj, HE.out, HFj.out, HWj.out⟩
end Go.Proofs.Ytgfeabgmllkdeaa

/-
  The laws' own heldRowS, markMember and heldMember.
-/
namespace Go.Proofs.Ytgfeabgmllkdeaa
set_option linter.unusedVariables false
set_option linter.unusedSimpArgs false
open Go.RowKit Go.Sort

/-- The cells of a row with marks. -/
theorem mk8_at {w : World} {g o : Nat} {r : Rw} {K : Nat} {f : Fp} (h : Plc w g o (rw8 (mk8 r K)) f) : ∃ u1 u2 u3 u7 f1 f2 f3 f7, (w.cell? ⟨g, o, none⟩ = some (.int .i64 (K : Int)) ∧ w.cell? ⟨g, o + 1, none⟩ = some u1 ∧ w.cell? ⟨g, o + 2, none⟩ = some u2 ∧ w.cell? ⟨g, o + 3, none⟩ = some u3) ∧ w.cell? ⟨g, o + 4, none⟩ = some (.bool (m3 ((K + 1 + r.txt.length + r.got.length + r.sus.length : Nat) : Int))) ∧ w.cell? ⟨g, o + 5, none⟩ = some (.bool (m3 (((K + 1 + r.txt.length + r.got.length + r.sus.length : Nat) : Int) + 1))) ∧ w.cell? ⟨g, o + 6, none⟩ = some (.int .i64 (((K + 1 + r.txt.length + r.got.length + r.sus.length : Nat) : Int) + 1 + 1)) ∧ w.cell? ⟨g, o + 7, none⟩ = some u7 ∧
    Cel.ow w (scl (marksS r.txt.length (K + 1))) u1 f1 ∧ Cel.ow w (icl (marks r.got.length (K + 1 + r.txt.length))) u2 f2 ∧ Cel.ow w (icl (marks r.sus.length (K + 1 + r.txt.length + r.got.length))) u3 f3 ∧ Cel.ow w (icl (marks r.trm.length (K + 1 + r.txt.length + r.got.length + r.sus.length + 1 + 1 + 1))) u7 f7 := by
  obtain ⟨u0, g0, c0, _, ⟨rfl, _⟩, _⟩ := h.at (j := 0) (c := .v (.int .i64 (K : Int))) rfl
  obtain ⟨u1, f1, c1, _, o1, _⟩ := h.at (j := 1) (c := scl (marksS r.txt.length (K + 1))) rfl
  obtain ⟨u2, f2, c2, _, o2, _⟩ := h.at (j := 2) (c := icl (marks r.got.length (K + 1 + r.txt.length))) rfl
  obtain ⟨u3, f3, c3, _, o3, _⟩ := h.at (j := 3) (c := icl (marks r.sus.length (K + 1 + r.txt.length + r.got.length))) rfl
  obtain ⟨u4, g4, c4, _, ⟨rfl, _⟩, _⟩ := h.at (j := 4) (c := .v (.bool (m3 ((K + 1 + r.txt.length + r.got.length + r.sus.length : Nat) : Int)))) rfl
  obtain ⟨u5, g5, c5, _, ⟨rfl, _⟩, _⟩ := h.at (j := 5) (c := .v (.bool (m3 (((K + 1 + r.txt.length + r.got.length + r.sus.length : Nat) : Int) + 1)))) rfl
  obtain ⟨u6, g6, c6, _, ⟨rfl, _⟩, _⟩ := h.at (j := 6) (c := .v (.int .i64 (((K + 1 + r.txt.length + r.got.length + r.sus.length : Nat) : Int) + 1 + 1))) rfl
  obtain ⟨u7, f7, c7, _, o7, _⟩ := h.at (j := 7) (c := icl (marks r.trm.length (K + 1 + r.txt.length + r.got.length + r.sus.length + 1 + 1 + 1))) rfl
  exact ⟨u1, u2, u3, u7, f1, f2, f3, f7, ⟨c0, c1, c2, c3⟩, c4, c5, c6, c7, o1, o2, o3, o7⟩
set_option maxRecDepth 100000 in
set_option maxHeartbeats 6400000 in
theorem heldRs_ow (a : Option Addr) (cap k0 : Nat) (R : List Rw) (fp : Fp) (w : World) (h : Cel.ow w (lcl 8 rw8 (mkP R k0 R.length)) (.slice a R.length cap) fp) (hk1 : 1 ≤ k0) (hk : k0 + cP R R.length ≤ 10000000) (hm : R.length ≤ maxLen) :
    Calls Try.prog 83 #[.slice a R.length cap, .int .i64 (k0 : Int)] w fun e w' => e = .returned (.int .i64 ((k0 + cP R R.length : Nat) : Int)) ∧ Below w.heap.size w w' := by
  unfold maxLen at hm
  have HH : Hid (Cel.ow w (lcl 8 rw8 (mkP R k0 R.length)) (.slice a R.length cap) fp) := h
  clear h
  go_enter Try.func83, Try.ntmps83
  go_wp2_with fail
  go_loopw [1, 5] (fun kv v wr => ∃ (j K : Nat), j ≤ R.length ∧ v = .int .i64 (j : Int) ∧ kv = .int .i64 (K : Int) ∧ Hid (K = k0 + cP R j) ∧ Below w.heap.size w wr) (fun _ v _ => R.length - (intOf v).toNat)
  case atStart => exact ⟨0, k0, Nat.zero_le _, rfl, rfl, by simp [Hid, cP], Below.refl _ _⟩
  case round =>
    obtain ⟨j, K0, hj, rfl, rfl, hK, hb⟩ := hrel
    have HB : Hid (Below w.heap.size w wr) := hb
    by_cases hlt : j < R.length
    · have j1 : (j : Int) < (R.length : Int) := by omega
      have j0 : (0 : Int) ≤ (j : Int) := by omega
      have hlen := mkP_len R k0 R.length
      have hat : (mkP R k0 R.length)[j]? = some (mk8 (rowN R j) (k0 + cP R j)) := by
        have := mkP_row (k := k0) (i := j) (Nat.le_refl R.length)
        rw [if_pos hlt] at this
        rw [← this]
        simp [rowN, List.getD, hlen, hlt]
      have ho := Cel.ow_below HH.out hb
      generalize mkP R k0 R.length = MM at ho hlen hat
      rw [← hlen] at ho
      obtain ⟨g, off, f, rfl, hfg, hfs, hP, hglt, hput⟩ := ow_elF rw8_len (by omega) ho hat
      rw [← hK.out] at hP
      have hKb : K0 + cnt8 (rowN R j) ≤ 10000000 := by
        have h1 := cP_mono R (show j + 1 ≤ R.length from hlt)
        rw [cP_next hlt] at h1
        have := hK.out
        omega
      have HKn : Hid (K0 + cnt8 (rowN R j) = k0 + cP R (j + 1)) := by rw [Hid, cP_next hlt, hK.out]; omega
      have hK1 : 1 ≤ K0 := by have := hK.out; omega
      have HP : Hid (∀ X, Below wr.heap.size wr X → Plc X g (off + j * 8) (rw8 (mk8 (rowN R j) K0)) f) := fun X hX => hP.below hX
      clear ho hput hP hat hlen hK hfs hb
      generalize rowN R j = r at *
      unfold cnt8 at hKb
      obtain ⟨u1, u2, u3, u7, f1, f2, f3, f7, ⟨c0, c1, c2, c3⟩, c4, c5, c6, c7, o1, o2, o3, o7⟩ := mk8_at (HP.out wr (Below.refl _ _))
      obtain ⟨Ka, hKa⟩ : ∃ Ka : Nat, Hid (Ka = K0 + 1) := ⟨_, rfl⟩
      rw [← hKa.out] at o1
      have eKa : (Ka : Int) = (K0 : Int) + 1 := by have := hKa.out; omega
      have hM1 := heldS_ow u1 Ka r.txt.length f1 wr o1 (by have := hKa.out; omega) (by have := hKa.out; omega) (by omega)
      obtain ⟨K2, hK2⟩ : ∃ K2 : Nat, Hid (K2 = Ka + r.txt.length) := ⟨_, rfl⟩
      have eK2 : (Ka : Int) + (r.txt.length : Int) = (K2 : Int) := by have := hK2.out; omega
      rw [eK2, eKa] at hM1
      have ne0 : ((K0 : Int) != (K0 : Int)) = false := by simp
      clear o1 o2 o3 o7 c2 c3 c4 c5 c6 c7 eKa eK2
      go_wp2_with fail
      refine hM1.mono ?_
      rintro e X1 ⟨rfl, hb1⟩
      have HB1 : Hid (Below w.heap.size w X1) := HB.out.trans (hb1.mono HB.out.size)
      have hPP := HP.out X1 hb1
      clear hM1 c0 c1 ne0 hb1
      obtain ⟨u1, u2, u3, u7, f1, f2, f3, f7, ⟨c0, c1, c2, c3⟩, c4, c5, c6, c7, o1, o2, o3, o7⟩ := mk8_at hPP
      have eA : K0 + 1 + r.txt.length = K2 := by have := hKa.out; have := hK2.out; omega
      rw [eA] at o2 o3 o7 c4 c5 c6
      obtain ⟨K3, hK3⟩ : ∃ K3 : Nat, Hid (K3 = K2 + r.got.length) := ⟨_, rfl⟩
      rw [← hK3.out] at o3 o7 c4 c5 c6
      obtain ⟨K4, hK4⟩ : ∃ K4 : Nat, Hid (K4 = K3 + r.sus.length) := ⟨_, rfl⟩
      rw [← hK4.out] at o7 c4 c5 c6
      obtain ⟨K7, hK7⟩ : ∃ K7 : Nat, Hid (K7 = K4 + 1 + 1 + 1) := ⟨_, rfl⟩
      rw [← hK7.out] at o7
      obtain ⟨K8, hK8⟩ : ∃ K8 : Nat, Hid (K8 = K7 + r.trm.length) := ⟨_, rfl⟩
      have HK8 : Hid (K8 = k0 + cP R (j + 1)) := by
        have h1 := HKn.out
        unfold cnt8 at h1
        have := hKa.out; have := hK2.out; have := hK3.out; have := hK4.out; have := hK7.out; have := hK8.out
        rw [Hid]
        omega
      have hK8b : K8 ≤ 10000000 := by
        have h1 := HKn.out
        have := hKa.out; have := hK2.out; have := hK3.out; have := hK4.out; have := hK7.out; have := hK8.out
        omega
      have hM2 := heldI_ow u2 K2 r.got.length f2 X1 o2 (by have := hK3.out; have := hK4.out; have := hK7.out; have := hK8.out; omega) (by omega)
      have hM3 := heldI_ow u3 K3 r.sus.length f3 X1 o3 (by have := hK4.out; have := hK7.out; have := hK8.out; omega) (by omega)
      have hM7 := heldI_ow u7 K7 r.trm.length f7 X1 o7 (by have := hK8.out; omega) (by omega)
      rw [show (K2 : Int) + (r.got.length : Int) = (K3 : Int) by have := hK3.out; omega] at hM2
      rw [show (K3 : Int) + (r.sus.length : Int) = (K4 : Int) by have := hK4.out; omega] at hM3
      rw [show (K7 : Int) + (r.trm.length : Int) = (K8 : Int) by have := hK8.out; omega, show (K7 : Int) = (K4 : Int) + 1 + 1 + 1 by have := hK7.out; omega] at hM7
      unfold m3 at c4 c5
      have n4 : (((K4 : Int) % 3 == 0) != ((K4 : Int) % 3 == 0)) = false := by simp
      have n5 : ((((K4 : Int) + 1) % 3 == 0) != (((K4 : Int) + 1) % 3 == 0)) = false := by simp
      have n6 : (((K4 : Int) + 1 + 1) != ((K4 : Int) + 1 + 1)) = false := by simp
      have p2 : ¬ ((K2 : Int) < 0) := by omega
      have p3 : ¬ ((K3 : Int) < 0) := by omega
      have p4 : ¬ ((K4 : Int) < 0) := by omega
      have p8 : ¬ ((K8 : Int) < 0) := by omega
      have hK4b : K4 ≤ 10000000 := by have := hK7.out; have := hK8.out; omega
      clear o1 o2 o3 o7 hPP eA hKb hK8b hk hK1 hk1 c0 c1
      go_wp2_with fail
      refine hM2.mono ?_
      rintro e X2 ⟨rfl, hx2⟩
      obtain rfl := hx2.symm
      clear hM2 hx2
      go_wp2_with fail
      refine hM3.mono ?_
      rintro e X3 ⟨rfl, hx3⟩
      obtain rfl := hx3.symm
      clear hM3 hx3
      go_wp2_with fail
      refine hM7.mono ?_
      rintro e X7 ⟨rfl, hx7⟩
      obtain rfl := hx7.symm
      clear hM7 hx7 c2 c3 c4 c5 c6 c7 n4 n5 n6 hK4b
      go_wp2
      go_roundw
      case rel => exact ⟨j + 1, K8, by omega, by go_num, rfl, HK8, HB1.out⟩
      case measure => simp [intOf]; omega
    · obtain rfl : j = R.length := by omega
      have k1 : ¬ ((R.length : Int) < (R.length : Int)) := by omega
      clear hb hk hk1
      go_wp2
      go_ret
      exact ⟨ret_int (by rw [hK.out]; omega), HB.out⟩
end Go.Proofs.Ytgfeabgmllkdeaa

/-
  The laws' own markMember and heldMember.
-/
namespace Go.Proofs.Ytgfeabgmllkdeaa
set_option linter.unusedVariables false
set_option linter.unusedSimpArgs false
open Go.RowKit Go.Sort

/-- Two things of one's own. -/
theorem owL_two {w : World} {c1 c2 : Cel} {v1 v2 : Value} {f : Fp} (h : owL w [c1, c2] [v1, v2] f) : ∃ f1 f2, Cel.ow w c1 v1 f1 ∧ Cel.ow w c2 v2 f2 ∧ (∀ b, f1 b → ¬ f2 b) ∧ ∀ b, f b ↔ f1 b ∨ f2 b := by
  obtain ⟨u1, us1, f1, g1, e1, o1, h2, d1, i1⟩ := h
  cases e1
  obtain ⟨u2, us2, f2, g2, e2, o2, h3, d2, i2⟩ := h2
  cases e2
  have hg : ∀ b, ¬ g2 b := h3.2
  refine ⟨f1, f2, o1, o2, fun b h1 h2 => d1 b h1 ((i2 b).2 (.inl h2)), fun b => ?_⟩
  rw [i1, i2]
  exact ⟨fun h => h.imp id (fun h => h.elim id (fun h => absurd h (hg b))), fun h => h.imp id .inl⟩
theorem owL_both {w : World} {c1 c2 : Cel} {v1 v2 : Value} {f1 f2 : Fp} (h1 : Cel.ow w c1 v1 f1) (h2 : Cel.ow w c2 v2 f2) (hd : ∀ b, f1 b → ¬ f2 b) : owL w [c1, c2] [v1, v2] (fun b => f1 b ∨ f2 b) :=
  ⟨v1, [v2], f1, f2, rfl, h1, ⟨v2, [], f2, fun _ => False, rfl, h2, ⟨rfl, fun _ h => h⟩, fun _ _ h => h, fun b => by simp⟩, hd, fun b => Iff.rfl⟩
def mkMb (m : Mb) (k : Nat) : Mb := { m with rows := mkP m.rows k m.rows.length, sung := marks m.sung.length (k + cP m.rows m.rows.length) }
def cntMb (m : Mb) : Nat := cP m.rows m.rows.length + m.sung.length
set_option maxRecDepth 100000 in
set_option maxHeartbeats 1600000 in
theorem markMb_it (A : Ma) (m : Mb) (k0 lo hi : Nat) (w : World) (h : It w (mbCels m) (mbVals A m) lo hi) (hlo : lo ≤ w.heap.size) (hh : hi ≤ w.heap.size) (hk1 : 1 ≤ k0) (hk : k0 + cntMb m ≤ 10000000) (hm : m.rows.length ≤ maxLen) :
    Calls Try.prog 34 #[mbV A m, .int .i64 (k0 : Int)] w fun e w' => e = .returned (.int .i64 ((k0 + cntMb m : Nat) : Int)) ∧ It w' (mbCels (mkMb m k0)) (mbVals A m) lo w'.heap.size ∧ Wrt (Iv lo hi) w w' := by
  have hb := oneA16 w (.cells (mbC A m) 40)
  have hx := Bx.new w 40 (mbC A m)
  obtain ⟨fp, hl, hfp⟩ := h.below hb
  obtain ⟨f1, f2, o1, o2, hd, hi2⟩ := owL_two hl
  have HF1 : Hid (∀ b, f1 b → lo ≤ b ∧ b < hi) := fun b hb => hfp b ((hi2 b).2 (.inl hb))
  have HF2 : Hid (∀ b, f2 b → lo ≤ b ∧ b < hi) := fun b hb => hfp b ((hi2 b).2 (.inr hb))
  have HD : Hid (∀ b, f1 b → ¬ f2 b) := hd
  obtain ⟨id, n, rows, sung, done⟩ := m
  obtain ⟨ra, rc, sa, sc⟩ := A
  unfold cntMb at hk ⊢
  simp only at hk hm o1 o2 ⊢
  unfold mbV
  unfold mbC at *
  simp only at *
  have HW0 : Hid (Wrt (Iv lo hi) w (w.alloc (.cells #[.int .i64 id, .int .i64 n, .slice ra rows.length rc, .slice sa sung.length sc, .bool done] 40))) := Wrt.of_below hb
  have hws := hb.size
  generalize hWW : w.alloc (.cells #[.int .i64 id, .int .i64 n, .slice ra rows.length rc, .slice sa sung.length sc, .bool done] 40) = W at *
  have HX : Hid (∀ X, Wrt f1 W X → Bx X w.heap.size 40 #[.int .i64 id, .int .i64 n, .slice ra rows.length rc, .slice sa sung.length sc, .bool done]) := fun X hX => hx.wrt hX (fun k => by have := (HF1.out _ k).2; omega)
  obtain ⟨c0, c1, c2, c3, c4⟩ := Bx.r5 (HX.out W (Wrt.refl _ _))
  obtain ⟨KR, hKR⟩ : ∃ KR : Nat, Hid (KR = k0 + cP rows rows.length) := ⟨_, rfl⟩
  have hM1 := markRs_ow ra rc k0 rows f1 W o1 hk1 (by omega) hm
  rw [← hKR.out] at hM1
  have HO2 : Hid (Cel.ow W (icl sung) (.slice sa sung.length sc) f2) := o2
  have hsb : sung.length ≤ 10000000 := by omega
  have HKb : Hid (KR + sung.length ≤ 10000000) := by have := hKR.out; rw [Hid]; omega
  clear h hl hfp hi2 o1 o2 hx hb hd hk
  go_enter Try.func34, Try.ntmps34
  go_wp2_with fail
  refine hM1.mono ?_
  rintro e X1 ⟨rfl, g1, q1, hg1, hw1⟩
  have HQ1 : Hid (Cel.ow X1 (lcl 8 rw8 (mkP rows k0 rows.length)) (.slice ra rows.length rc) g1) := q1
  have HG1 : Hid (∀ b, g1 b → f1 b ∨ W.heap.size ≤ b) := hg1
  have HW1 : Hid (Wrt f1 W X1) := hw1
  have p2 := Cel.ow_wrt HO2.out hw1 (fun b hb k => HD.out b k hb)
  have hM2 := markI_ow _ KR sung f2 X1 p2 (by have := HKb.out; omega) hsb
  have hK2 : (KR : Int) + (sung.length : Int) = ((KR + sung.length : Nat) : Int) := by omega
  rw [hK2] at hM2
  clear c0 c1 c2 c3 c4
  obtain ⟨c0, c1, c2, c3, c4⟩ := Bx.r5 (HX.out X1 hw1)
  clear hM1 q1 hg1 hw1 p2 hk1 hsb hK2
  go_wp2_with fail
  refine hM2.mono ?_
  rintro e X2 ⟨rfl, q2, hw2⟩
  have hs1 := HW1.out.size
  have hs2 := hw2.size
  have HE : Hid (It X2 (mbCels (mkMb ⟨id, n, rows, sung, done⟩ k0)) [.slice ra rows.length rc, .slice sa sung.length sc] lo X2.heap.size) := by
    have hd2 : ∀ b, g1 b → ¬ f2 b := fun b h1 h2 => by
      rcases HG1.out b h1 with h | h
      · exact HD.out b h h2
      · have := (HF2.out b h2).2; omega
    have o1' := Cel.ow_wrt HQ1.out hw2 (fun b hb k => hd2 b hb k)
    rw [hKR.out] at q2
    refine ⟨_, owL_both o1' q2 hd2, fun b hb => ?_⟩
    have hlt : b < X2.heap.size := owL_lt (owL_both o1' q2 hd2) b hb
    rcases hb with hb | hb
    · rcases HG1.out b hb with h | h
      · exact ⟨(HF1.out b h).1, hlt⟩
      · exact ⟨by omega, hlt⟩
    · exact ⟨(HF2.out b hb).1, hlt⟩
  have HWf : Hid (Wrt (Iv lo hi) w X2) := (HW0.out.trans (HW1.out.mono (fun b _ h => HF1.out b h)) (fun _ _ h => h)).trans (hw2.mono (fun b _ h => HF2.out b h)) (fun _ _ h => h)
  clear hM2 q2 hw2 c0 c1 c2 c3 c4
  go_wp2
  go_ret
  exact ⟨ret_int (by rw [hKR.out]; omega), HE.out, HWf.out⟩
set_option maxRecDepth 100000 in
set_option maxHeartbeats 1600000 in
theorem heldMb_it (A : Ma) (m : Mb) (k0 lo hi : Nat) (w : World) (h : It w (mbCels (mkMb m k0)) (mbVals A m) lo hi) (hk1 : 1 ≤ k0) (hk : k0 + cntMb m ≤ 10000000) (hm : m.rows.length ≤ maxLen) :
    Calls Try.prog 35 #[mbV A m, .int .i64 (k0 : Int)] w fun e w' => e = .returned (.int .i64 ((k0 + cntMb m : Nat) : Int)) ∧ Below w.heap.size w w' := by
  have hb := oneA16 w (.cells (mbC A m) 40)
  have hx := Bx.new w 40 (mbC A m)
  obtain ⟨fp, hl, hfp⟩ := h.below hb
  obtain ⟨f1, f2, o1, o2, hd, hi2⟩ := owL_two hl
  obtain ⟨id, n, rows, sung, done⟩ := m
  obtain ⟨ra, rc, sa, sc⟩ := A
  unfold cntMb at hk ⊢
  unfold mkMb at o1 o2
  simp only at hk hm o1 o2 ⊢
  unfold mbV
  unfold mbC at *
  simp only at *
  generalize hWW : w.alloc (.cells #[.int .i64 id, .int .i64 n, .slice ra rows.length rc, .slice sa sung.length sc, .bool done] 40) = W at *
  have HB0 : Hid (Below w.heap.size w W) := hb
  obtain ⟨c0, c1, c2, c3, c4⟩ := Bx.r5 hx
  have HX : Hid (Bx W w.heap.size 40 #[.int .i64 id, .int .i64 n, .slice ra rows.length rc, .slice sa sung.length sc, .bool done]) := hx
  obtain ⟨KR, hKR⟩ : ∃ KR : Nat, Hid (KR = k0 + cP rows rows.length) := ⟨_, rfl⟩
  have hM1 := heldRs_ow ra rc k0 rows f1 W o1 hk1 (by omega) hm
  rw [← hKR.out] at hM1
  rw [← hKR.out] at o2
  have HO2 : Hid (Cel.ow W (icl (marks sung.length KR)) (.slice sa sung.length sc) f2) := o2
  have hsb : sung.length ≤ 10000000 := by omega
  have HKb : Hid (KR + sung.length ≤ 10000000) := by have := hKR.out; rw [Hid]; omega
  clear h hl hfp hi2 o1 o2 hx hb hd hk
  go_enter Try.func35, Try.ntmps35
  go_wp2_with fail
  refine hM1.mono ?_
  rintro e X1 ⟨rfl, hb1⟩
  have HB1 : Hid (Below w.heap.size w X1) := HB0.out.trans (hb1.mono HB0.out.size)
  have hM2 := heldI_ow _ KR sung.length f2 X1 (Cel.ow_below HO2.out hb1) (by have := HKb.out; omega) hsb
  have hK2 : (KR : Int) + (sung.length : Int) = ((KR + sung.length : Nat) : Int) := by omega
  rw [hK2] at hM2
  clear c0 c1 c2 c3 c4
  obtain ⟨c0, c1, c2, c3, c4⟩ := Bx.r5 (HX.out.below hb1)
  have p1 : ¬ ((KR : Int) < 0) := by omega
  have p2 : ¬ (((KR + sung.length : Nat) : Int) < 0) := by omega
  clear hM1 hb1 hk1 hsb hK2
  go_wp2_with fail
  refine hM2.mono ?_
  rintro e X2 ⟨rfl, hx2⟩
  obtain rfl := hx2.symm
  clear hM2 hx2 c0 c1 c2 c3 c4
  go_wp2
  go_ret
  exact ⟨ret_int (by rw [hKR.out]; omega), HB1.out⟩
end Go.Proofs.Ytgfeabgmllkdeaa

/-
  The laws' own eqRowS and eqMember.
-/
namespace Go.Proofs.Ytgfeabgmllkdeaa
set_option linter.unusedVariables false
set_option linter.unusedSimpArgs false
open Go.RowKit Go.Sort

set_option maxRecDepth 100000 in
set_option maxHeartbeats 3200000 in
theorem eqRs_any (a a' : Option Addr) (cap cap' : Nat) (R : List Rw) (w : World) (hv : Cel.vw w (lcl 8 rw8 R) (.slice a R.length cap)) (hu : Cel.vw w (lcl 8 rw8 R) (.slice a' R.length cap')) (hf : ∀ r ∈ R, FitR r) (hm : R.length ≤ maxLen) :
    Calls Try.prog 77 #[.slice a R.length cap, .slice a' R.length cap'] w fun e w' => e = .returned (.bool true) ∧ Below w.heap.size w w' := by
  have HV : Hid (Cel.vw w (lcl 8 rw8 R) (.slice a R.length cap)) := hv
  have HU : Hid (Cel.vw w (lcl 8 rw8 R) (.slice a' R.length cap')) := hu
  have hbb : ((R.length : Int) != (R.length : Int)) = false := by simp
  unfold maxLen at hm
  clear hv hu
  go_enter Try.func77, Try.ntmps77
  go_wp2_with fail
  go_loopw [5] (fun v wr => ∃ k : Nat, k ≤ R.length ∧ v = .int .i64 (k : Int) ∧ Below w.heap.size w wr) (fun v _ => R.length - (intOf v).toNat)
  case atStart => exact ⟨0, Nat.zero_le _, rfl, Below.refl _ _⟩
  case round =>
    obtain ⟨k, hk, rfl, hb⟩ := hrel
    by_cases hlt : k < R.length
    · have k1 : (k : Int) < (R.length : Int) := by omega
      have k0 : (0 : Int) ≤ (k : Int) := by omega
      have hmem : rowN R k ∈ R := rowN_mem hlt
      have hkx : R[k]? = some (rowN R k) := by simp [rowN, List.getD, hlt]
      obtain ⟨g, off, hra, hpv⟩ := vw_elF rw8_len (Cel.vw_below HV.out hb) hkx
      obtain ⟨g', off', hra', hpv'⟩ := vw_elF rw8_len (Cel.vw_below HU.out hb) hkx
      obtain ⟨A, ⟨⟨d0, d1, d2, d3⟩, d4, d5, d6, d7⟩, hrs⟩ := hpv.row (hf _ hmem)
      obtain ⟨A', ⟨⟨e0, e1, e2, e3⟩, e4, e5, e6, e7⟩, hrs'⟩ := hpv'.row (hf _ hmem)
      subst hra hra'
      have C : ∀ q : Bk wr, Calls Try.prog 42 #[rwV A (rowN R k), rwV A' (rowN R k)] q.w fun e w' => e = .returned (.bool true) ∧ Below q.w.heap.size q.w w' := fun q => eqRw_any A A' _ q.w (hrs.below q.h) (hrs'.below q.h)
      unfold rwV rwC at C
      have T : ∀ {x v}, wr.cell? x = some v → ∀ q : Bk wr, q.w.cell? x = some v := fun h q => (q.h.cell (World.block_lt_of_cell? _ _ h)).trans h
      have dp0 := T d0
      have dp1 := T d1
      have dp2 := T d2
      have dp3 := T d3
      have dp4 := T d4
      have dp5 := T d5
      have dp6 := T d6
      have dp7 := T d7
      have ep0 := T e0
      have ep1 := T e1
      have ep2 := T e2
      have ep3 := T e3
      have ep4 := T e4
      have ep5 := T e5
      have ep6 := T e6
      have ep7 := T e7
      have HB : Hid (Below w.heap.size w wr) := hb
      generalize rowN R k = r at *
      clear hrs hrs' hpv hpv' hb T d0 d1 d2 d3 d4 d5 d6 d7 e0 e1 e2 e3 e4 e5 e6 e7 hkx
      go_wp2_with fail
      refine wp_region_bk (by kernel_rfl) (by kernel_rfl) ?_
      repeat (go_big_quiet_step ((first | (go_at_call 42; exact bk_call _ (C _)) | rfl)))
      refine wpQuiet_nil ?_
      intro wE hw'
      obtain ⟨⟨w11, hb11⟩, hw''⟩ := hw'
      have hwe : wE = w11 := hw''
      clear hw''
      subst hwe
      have HB1 : Hid (Below w.heap.size w wE) := HB.out.trans (hb11.mono HB.out.size)
      clear C hb11 dp0 dp1 dp2 dp3 dp4 dp5 dp6 dp7 ep0 ep1 ep2 ep3 ep4 ep5 ep6 ep7
      go_wp2
      go_roundw
      case rel => exact ⟨k + 1, by omega, by go_num, HB1.out⟩
      case measure => simp [intOf]; omega
    · have k1 : ¬ ((k : Int) < (R.length : Int)) := by omega
      have HB : Hid (Below w.heap.size w wr) := hb
      clear hb
      go_wp2
      go_ret
      exact ⟨rfl, HB.out⟩
set_option maxRecDepth 100000 in
set_option maxHeartbeats 3200000 in
theorem eqMb_any (A D : Ma) (m : Mb) (w : World) (hv : MbS w A m) (hu : MbS w D m) :
    Calls Try.prog 31 #[mbV A m, mbV D m] w fun e w' => e = .returned (.bool true) ∧ Below w.heap.size w w' := by
  have hB0 : Below w.heap.size w ((w.alloc (.cells #[.int .i64 m.id, .int .i64 m.n, .slice A.ra m.rows.length A.rc, .slice A.sa m.sung.length A.sc, .bool m.done] 40)).alloc (.cells #[.int .i64 m.id, .int .i64 m.n, .slice D.ra m.rows.length D.rc, .slice D.sa m.sung.length D.sc, .bool m.done] 40)) := (oneA16 w _).trans ((oneA16 _ _).mono (oneA16 w _).size)
  have hx : Bx ((w.alloc (.cells #[.int .i64 m.id, .int .i64 m.n, .slice A.ra m.rows.length A.rc, .slice A.sa m.sung.length A.sc, .bool m.done] 40)).alloc (.cells #[.int .i64 m.id, .int .i64 m.n, .slice D.ra m.rows.length D.rc, .slice D.sa m.sung.length D.sc, .bool m.done] 40)) w.heap.size 40 #[.int .i64 m.id, .int .i64 m.n, .slice A.ra m.rows.length A.rc, .slice A.sa m.sung.length A.sc, .bool m.done] := (Bx.new w _ _).alloc _
  have hy : Bx ((w.alloc (.cells #[.int .i64 m.id, .int .i64 m.n, .slice A.ra m.rows.length A.rc, .slice A.sa m.sung.length A.sc, .bool m.done] 40)).alloc (.cells #[.int .i64 m.id, .int .i64 m.n, .slice D.ra m.rows.length D.rc, .slice D.sa m.sung.length D.sc, .bool m.done] 40)) (w.heap.size + 1) 40 #[.int .i64 m.id, .int .i64 m.n, .slice D.ra m.rows.length D.rc, .slice D.sa m.sung.length D.sc, .bool m.done] := by
    have := Bx.new (w.alloc (.cells #[.int .i64 m.id, .int .i64 m.n, .slice A.ra m.rows.length A.rc, .slice A.sa m.sung.length A.sc, .bool m.done] 40)) 40 #[.int .i64 m.id, .int .i64 m.n, .slice D.ra m.rows.length D.rc, .slice D.sa m.sung.length D.sc, .bool m.done]
    simpa using this
  have h0 := hv.below hB0
  have g0 := hu.below hB0
  have hR := eqRs_any A.ra D.ra A.rc D.rc m.rows _ h0.rows g0.rows h0.fit h0.mr
  have hE : ∀ X, Below w.heap.size w X → Calls Try.prog 78 #[.slice A.sa m.sung.length A.sc, .slice D.sa m.sung.length D.sc] X fun e w' => e = .returned (.bool true) ∧ Below X.heap.size X w' := fun X h => (eq_any A.sa D.sa m.sung.length A.sc m.sung.length D.sc m.sung m.sung X (hv.sung.below h (Nat.le_refl _)) (hu.sung.below h (Nat.le_refl _)) hv.ms).mono (fun e w' ⟨h4, n, h5⟩ => ⟨by rw [h4]; simp, by rw [h5]; exact belowN (Below.refl _ _)⟩)
  unfold mbV mbC
  generalize hWW : (w.alloc (.cells #[.int .i64 m.id, .int .i64 m.n, .slice A.ra m.rows.length A.rc, .slice A.sa m.sung.length A.sc, .bool m.done] 40)).alloc (.cells #[.int .i64 m.id, .int .i64 m.n, .slice D.ra m.rows.length D.rc, .slice D.sa m.sung.length D.sc, .bool m.done] 40) = W at *
  have n1 : (m.id != m.id) = false := by simp
  have n2 : (m.n != m.n) = false := by simp
  have n3 : (m.done != m.done) = false := by simp
  have HX : Hid (Bx W w.heap.size 40 #[.int .i64 m.id, .int .i64 m.n, .slice A.ra m.rows.length A.rc, .slice A.sa m.sung.length A.sc, .bool m.done]) := hx
  have HY : Hid (Bx W (w.heap.size + 1) 40 #[.int .i64 m.id, .int .i64 m.n, .slice D.ra m.rows.length D.rc, .slice D.sa m.sung.length D.sc, .bool m.done]) := hy
  have HB : Hid (Below w.heap.size w W) := hB0
  obtain ⟨c0, c1, c2, c3, c4⟩ := Bx.r5 hx
  obtain ⟨d0, d1, d2, d3, d4⟩ := Bx.r5 hy
  clear hv hu h0 g0 hB0 hx hy
  go_enter Try.func31, Try.ntmps31
  go_wp2_with fail
  refine hR.mono ?_
  rintro e w1 ⟨rfl, hb1⟩
  have HB1 : Hid (Below w.heap.size w w1) := HB.out.trans (hb1.mono HB.out.size)
  have HX1 : Hid (Bx w1 w.heap.size 40 #[.int .i64 m.id, .int .i64 m.n, .slice A.ra m.rows.length A.rc, .slice A.sa m.sung.length A.sc, .bool m.done]) := HX.out.below hb1
  have HY1 : Hid (Bx w1 (w.heap.size + 1) 40 #[.int .i64 m.id, .int .i64 m.n, .slice D.ra m.rows.length D.rc, .slice D.sa m.sung.length D.sc, .bool m.done]) := HY.out.below hb1
  clear c0 c1 c2 c3 c4 d0 d1 d2 d3 d4 hR hb1
  obtain ⟨c0, c1, c2, c3, c4⟩ := Bx.r5 HX1.out
  obtain ⟨d0, d1, d2, d3, d4⟩ := Bx.r5 HY1.out
  go_wp2_with fail
  refine (hE _ HB1.out).mono ?_
  rintro e w2 ⟨rfl, hb2⟩
  have HB2 : Hid (Below w.heap.size w w2) := HB1.out.trans (hb2.mono HB1.out.size)
  clear c0 c1 c2 c3 c4 d0 d1 d2 d3 d4 hE
  obtain ⟨c0, c1, c2, c3, c4⟩ := Bx.r5 (HX1.out.below hb2)
  obtain ⟨d0, d1, d2, d3, d4⟩ := Bx.r5 (HY1.out.below hb2)
  clear hb2
  go_wp2
  go_ret
  exact ⟨rfl, HB2.out⟩
end Go.Proofs.Ytgfeabgmllkdeaa
