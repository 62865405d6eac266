/-
  Texts in one: Mbm Mbk Tlr Tlt Mbo Rcy Mbc Mbf Gma Gmb Olx Gmc Gmd Grr Gme Gmf Gmg Mbn Gmk Gml Qtl Mbg Mbd Mbh Gmh Mbl Plo Mbi Mbj Mbz Mba Ear Mbr Mbb Mbe Rns Rwo Mca Sdk Dvo Rdk Drt Rdw Rdr Rds Mci Mcj Gmi Gmj Mcc Gmm Gmn.
-/
import Derived.Test.YthioodpmgifomaaJaa
import Derived.Test.YthioodpmgifomaaJab
import Derived.BigQuiet
import Derived.StillTail
import Derived.OrdersHeld
import Derived.Deep.RegionHeld
import Derived.Deep.Cut
import Derived.Deep.CutRange
import Derived.Deep.Quiet
import Derived.Deep.LoopGhost
import Derived.Deep.RegionHeld3
namespace Go.Proofs.Ythioodpmgifomaa
set_option linter.unusedVariables false
set_option linter.unusedSimpArgs false
open Go.RowKit Go.Sort
def Pv (w : World) (B o : Nat) (cs : List Cel) : Prop := ∃ vs,(∀ j,j < vs.length → w.cell? ⟨B,o + j,none⟩ = vs[j]?) ∧ vwL w cs vs
theorem Pv.at {w : World} {B o : Nat} {cs : List Cel} (h : Pv w B o cs) {j : Nat} {c : Cel} (hj : cs[j]? = some c) : ∃ u,w.cell? ⟨B,o + j,none⟩ = some u ∧ Cel.vw w c u := by
 obtain ⟨vs,h1,h2⟩ := h
 obtain ⟨u,hu,hv⟩ := vwL_at h2 hj
 refine ⟨u,(h1 j ?_).trans hu,hv⟩
 rcases Nat.lt_or_ge j vs.length with h | h
 ·exact h
 ·rw [List.getElem?_eq_none h] at hu;cases hu
theorem vwL_split {w : World} : ∀ {cs ds : List Cel} {ws : List Value},vwL w (cs ++ ds) ws → ∃ us vs,ws = us ++ vs ∧ vwL w cs us ∧ vwL w ds vs
 | [],ds,ws,h => ⟨[],ws,rfl,rfl,h⟩
 | c :: cs,ds,ws,h => by
  obtain ⟨u,us',rfl,h1,h2⟩ := h
  obtain ⟨us,vs,rfl,h3,h4⟩ := vwL_split h2
  exact ⟨u :: us,vs,rfl,⟨u,us,rfl,h1,h3⟩,h4⟩
theorem vw_elF {α : Type} {F : α → List Cel} {s : Nat} (hF : ∀ x,(F x).length = s) {w : World} {a : Option Addr} {c : Nat} {L : List α} (h : Cel.vw w (lcl s F L) (.slice a L.length c)) {k : Nat} {x : α} (hk : L[k]? = some x) : ∃ g off,a = some ⟨g,off,none⟩ ∧ Pv w g (off + k * s) (F x) := by
 obtain ⟨a0,c0,us,e0,h1,h2,h3,h4,h5⟩ := h
 cases e0
 have hkl : k < L.length := by
  rcases Nat.lt_or_ge k L.length with h | h
  ·exact h
  ·rw [List.getElem?_eq_none h] at hk;cases hk
 rcases h4 with h4 | ⟨b,off,rfl,hc⟩
 ·omega
 have hks : k * s + s ≤ L.length * s := by
  have : (k + 1) * s ≤ L.length * s := Nat.mul_le_mul_right s hkl
  rw [Nat.add_mul,Nat.one_mul] at this
  exact this
 have e1 : L.flatMap F = (L.flatMap F).take (k * s) ++ (((L.flatMap F).drop (k * s)).take s ++ (L.flatMap F).drop (k * s + s)) := by
  rw [← List.drop_drop,List.take_append_drop,List.take_append_drop]
 rw [e1] at h5
 obtain ⟨u1,u23,rfl,l1,l23⟩ := vwL_split h5
 obtain ⟨u2,u3,rfl,l2,l3⟩ := vwL_split l23
 rw [flat_take hF hk] at l2
 have hd := flat_len hF L
 have n1 : u1.length = k * s := by rw [vwL_len l1,List.length_take];omega
 have n2 : u2.length = s := by rw [vwL_len l2,hF]
 refine ⟨b,off,rfl,u2,fun j hj => ?_,l2⟩
 rw [Nat.add_assoc,hc (k * s + j) (by omega),List.getElem?_append_right (by omega),List.getElem?_append_left (by omega),n1]
 congr 1
 omega
def rw8 (r : Rw) : List Cel := [.v (.int .i64 r.ver),scl r.txt,icl r.got,icl r.sus,.v (.bool r.wed),.v (.bool r.rdy),.v (.int .i64 r.by_),icl r.trm]
theorem rw8_len (r : Rw) : (rw8 r).length = 8 := rfl
def C8 (w : World) (g o : Nat) (x0 x1 x2 x3 x4 x5 x6 x7 : Value) : Prop := (w.cell? ⟨g,o,none⟩ = some x0 ∧ w.cell? ⟨g,o + 1,none⟩ = some x1 ∧ w.cell? ⟨g,o + 2,none⟩ = some x2 ∧ w.cell? ⟨g,o + 3,none⟩ = some x3) ∧ w.cell? ⟨g,o + 4,none⟩ = some x4 ∧ w.cell? ⟨g,o + 5,none⟩ = some x5 ∧ w.cell? ⟨g,o + 6,none⟩ = some x6 ∧ w.cell? ⟨g,o + 7,none⟩ = some x7
theorem Pv.row {w : World} {g o : Nat} {r : Rw} (h : Pv w g o (rw8 r)) (hf : FitR r) : ∃ A : Ra,C8 w g o (.int .i64 r.ver) (.slice A.ta r.txt.length A.tc) (.slice A.ga r.got.length A.gc) (.slice A.sa r.sus.length A.sc) (.bool r.wed) (.bool r.rdy) (.int .i64 r.by_) (.slice A.ma r.trm.length A.mc) ∧ RwS w A r := by
 obtain ⟨u0,c0,rfl⟩ := h.at (j := 0) rfl
 obtain ⟨u1,c1,v1⟩ := h.at (j := 1) rfl
 obtain ⟨u2,c2,v2⟩ := h.at (j := 2) rfl
 obtain ⟨u3,c3,v3⟩ := h.at (j := 3) rfl
 obtain ⟨u4,c4,rfl⟩ := h.at (j := 4) rfl
 obtain ⟨u5,c5,rfl⟩ := h.at (j := 5) rfl
 obtain ⟨u6,c6,rfl⟩ := h.at (j := 6) rfl
 obtain ⟨u7,c7,v7⟩ := h.at (j := 7) rfl
 obtain ⟨ta,tc,rfl,t1,t2,t3⟩ := vw_scl v1
 obtain ⟨ga,gc,rfl,g1,g2,g3⟩ := vw_icl v2 hf.1
 obtain ⟨sa,sc,rfl,s1,s2,s3⟩ := vw_icl v3 hf.2.1
 obtain ⟨ma,mc,rfl,m1,m2,m3⟩ := vw_icl v7 hf.2.2
 exact ⟨⟨ta,tc,ga,gc,sa,sc,ma,mc⟩,⟨⟨c0,c1,c2,c3⟩,c4,c5,c6,c7⟩,t1,g1,s1,m1,by omega,by omega,by omega,by omega⟩
structure Ma where
 ra : Option Addr
 rc : Nat
 sa : Option Addr
 sc : Nat
def mbC (A : Ma) (m : Mb) : Array Value := #[.int .i64 m.id,.int .i64 m.n,.slice A.ra m.rows.length A.rc,.slice A.sa m.sung.length A.sc,.bool m.done]
def mbV (A : Ma) (m : Mb) : Value := .agg (mbC A m)
def mbCels (m : Mb) : List Cel := [lcl 8 rw8 m.rows,icl m.sung]
def mbVals (A : Ma) (m : Mb) : List Value := [.slice A.ra m.rows.length A.rc,.slice A.sa m.sung.length A.sc]
def mb5 (m : Mb) : List Cel := [.v (.int .i64 m.id),.v (.int .i64 m.n),lcl 8 rw8 m.rows,icl m.sung,.v (.bool m.done)]
theorem mb5_len (m : Mb) : (mb5 m).length = 5 := rfl
def FitM (m : Mb) : Prop := (∀ r ∈ m.rows,FitR r) ∧ Fits m.sung
structure MbS (w : World) (A : Ma) (m : Mb) : Prop where
 rows : Cel.vw w (lcl 8 rw8 m.rows) (.slice A.ra m.rows.length A.rc)
 sung : Vec w A.sa m.sung.length m.sung
 mr : m.rows.length ≤ maxLen
 ms : m.sung.length ≤ maxLen
 fit : ∀ r ∈ m.rows,FitR r
theorem MbS.below {w w' : World} {A : Ma} {m : Mb} (h : MbS w A m) (hb : Below w.heap.size w w') : MbS w' A m := ⟨Cel.vw_below h.rows hb,h.sung.below hb (Nat.le_refl _),h.mr,h.ms,h.fit⟩
theorem mbs_of {w : World} {A : Ma} {m : Mb} (h : vwL w (mbCels m) (mbVals A m)) (hf : FitM m) : MbS w A m := by
 obtain ⟨u1,us1,e1,h1,h2⟩ := h
 cases e1
 obtain ⟨u2,us2,e2,h3,_⟩ := h2
 cases e2
 obtain ⟨a,c,e,h4,h5,h6⟩ := vw_icl h3 hf.2
 cases e
 have k := h1
 obtain ⟨_,_,_,e,k1,k2,_⟩ := k
 cases e
 exact ⟨h1,h4,by omega,by omega,hf.1⟩
theorem MbS.row {w : World} {A : Ma} {m : Mb} (h : MbS w A m) {k : Nat} (hk : k < m.rows.length) : ∃ g off Ak,A.ra = some ⟨g,off,none⟩ ∧ C8 w g (off + k * 8) (.int .i64 (rowN m.rows k).ver) (.slice Ak.ta (rowN m.rows k).txt.length Ak.tc) (.slice Ak.ga (rowN m.rows k).got.length Ak.gc) (.slice Ak.sa (rowN m.rows k).sus.length Ak.sc) (.bool (rowN m.rows k).wed) (.bool (rowN m.rows k).rdy) (.int .i64 (rowN m.rows k).by_) (.slice Ak.ma (rowN m.rows k).trm.length Ak.mc) ∧ RwS w Ak (rowN m.rows k) := by
 have e : m.rows[k]? = some (rowN m.rows k) := by simp [rowN,List.getD,hk]
 obtain ⟨g,off,h1,h2⟩ := vw_elF rw8_len h.rows e
 obtain ⟨Ak,h3,h4⟩ := h2.row (h.fit _ (List.mem_of_getElem? e))
 exact ⟨g,off,Ak,h1,h3,h4⟩
end Go.Proofs.Ythioodpmgifomaa
namespace Go.Proofs.Ythioodpmgifomaa
set_option linter.unusedVariables false
set_option linter.unusedSimpArgs false
open Go.RowKit Go.Sort
theorem Bx.r5 {w : World} {B : Nat} {T : TypeId} {x0 x1 x2 x3 x4 : Value} (h : Bx w B T #[x0,x1,x2,x3,x4]) : w.cell? ⟨B,0,none⟩ = some x0 ∧ w.cell? ⟨B,1,none⟩ = some x1 ∧ w.cell? ⟨B,2,none⟩ = some x2 ∧ w.cell? ⟨B,3,none⟩ = some x3 ∧ w.cell? ⟨B,4,none⟩ = some x4 :=
 ⟨h.at 0 rfl,h.at 1 rfl,h.at 2 rfl,h.at 3 rfl,h.at 4 rfl⟩
theorem rowN_at {R : List Rw} {k : Nat} (hk : k < R.length) : R[k]? = some (rowN R k) := by simp [rowN,List.getD,hk]
theorem okMb_row {m : Mb} {k : Nat} (hk : k < m.rows.length) (h : okRw (rowN m.rows k) m.n = false) : okMb m = false := by
 have : m.rows.all (fun r => okRw r m.n) = false := by
  rw [List.all_eq_false]
  exact ⟨rowN m.rows k,List.mem_of_getElem? (rowN_at hk),by simp [h]⟩
 simp only [okMb,this,Bool.false_and,Bool.and_false]
theorem okMb_sg {m : Mb} {k : Nat} (hk : k < m.sung.length) (h : (inB (el m.sung k) 0 59 && (m.done || decide (el m.sung k = (k : Int)))) = false) : okMb m = false := by
 have : okSg m = false := by
  rw [okSg,List.all_eq_false]
  exact ⟨k,List.mem_range.2 hk,by simp [h]⟩
 simp only [okMb,this,Bool.false_and,Bool.and_false]
theorem okMb_end {m : Mb} (h1 : inB m.n 1 5 = true) (h2 : inB m.id 0 (m.n - 1) = true) (h3 : (m.rows.length : Int) = m.n) (h4 : m.sung.length ≤ 60) (h5 : risB m.sung = true) (h6 : ∀ j,j < m.rows.length → okRw (rowN m.rows j) m.n = true) (h7 : ∀ j,j < m.sung.length → (inB (el m.sung j) 0 59 && (m.done || decide (el m.sung j = (j : Int)))) = true) :
  okMb m = (decide (el m.own.got m.i = (m.own.txt.length : Int)) && (decide (m.id ∉ m.own.sus) && (!m.done || m.own.rdy))) := by
 have e6 : m.rows.all (fun r => okRw r m.n) = true := by
  rw [List.all_eq_true]
  intro r hr
  obtain ⟨j,hj,rfl⟩ := List.mem_iff_getElem.1 hr
  have := h6 j hj
  simpa [rowN,List.getD,hj] using this
 have e7 : okSg m = true := by
  rw [okSg,List.all_eq_true]
  intro j hj
  exact h7 j (List.mem_range.1 hj)
 simp only [okMb,h1,h2,h3,h4,h5,e6,e7,decide_true,Bool.true_and]
theorem okRw_len {r : Rw} {n : Int} (h : okRw r n = true) : (r.got.length : Int) = n := by
 simp only [okRw,smB,Bool.and_eq_true,decide_eq_true_eq] at h
 exact h.2.2.2.1.2.1
set_option maxRecDepth 100000 in
set_option maxHeartbeats 3200000 in
theorem mbkS_any (A : Ma) (m : Mb) (w : World) (hv : MbS w A m) :
    Calls Try.prog 69 #[mbV A m] w fun e w' => e = .returned (.bool (okMb m)) ∧ Below w.heap.size w w' := by
  have hB0 := oneA16 w (.cells (mbC A m) 39)
  have hx := Bx.new w 39 (mbC A m)
  have h0 := hv.below hB0
  generalize hW : w.alloc (.cells (mbC A m) 39) = W at *
  obtain ⟨id,n,rows,sung,done⟩ := m
  obtain ⟨ra,rc,sa,sc⟩ := A
  have hw0 : w.alloc (.cells #[.int .i64 id,.int .i64 n,.slice ra rows.length rc,.slice sa sung.length sc,.bool done] 39) = W := hW
  obtain ⟨c0,c1,c2,c3,c4⟩ := Bx.r5 hx
  have HX : Hid (Bx W w.heap.size 39 #[.int .i64 id,.int .i64 n,.slice ra rows.length rc,.slice sa sung.length sc,.bool done]) := hx
  have HV : Hid (MbS W ⟨ra,rc,sa,sc⟩ ⟨id,n,rows,sung,done⟩) := h0
  have hsu := h0.sung
  have mr := h0.mr
  have ms := h0.ms
  simp only at hsu mr ms c0 c1 c2 c3 c4
  have HB0 : Hid (Below w.heap.size w W) := hB0
  have hR := l1Rises_any sa sung.length sc sung W hsu ms
  unfold mbV mbC
  clear hv hx hW hB0 h0
  simp only
  cases e1 : inB n 1 5 with
  | false =>
    have HZ : Hid (okMb ⟨id,n,rows,sung,done⟩ = false) := by rw [Hid];simp only [okMb,e1,Bool.false_and]
    go_enter Try.func69,Try.ntmps69
    go_wp2_with (first | (go_at_call 65;refine (l1In_any _ _ _ _).mono ?_;rintro e w' ⟨rfl,hw'⟩;rw [hw'];clear hw'))
    go_ret
    exact ⟨ret_bool (by rw [HZ.out]),HB0.out⟩
  | true =>
  have hn5 := inB7.1 e1
  have wn : wrap64 (n - 1) = n - 1 := by unfold wrap64;omega
  have HE1 : Hid (inB n 1 5 = true) := e1
  cases e2 : inB id 0 (n - 1) with
  | false =>
    have HZ : Hid (okMb ⟨id,n,rows,sung,done⟩ = false) := by rw [Hid];simp only [okMb,e2,Bool.false_and,Bool.and_false]
    go_enter Try.func69,Try.ntmps69
    go_wp2_with (first | (go_at_call 65;refine (l1In_any _ _ _ _).mono ?_;rintro e w' ⟨rfl,hw'⟩;rw [hw'];clear hw'))
    go_ret
    exact ⟨ret_bool (by rw [HZ.out]),HB0.out⟩
  | true =>
  have HE2 : Hid (inB id 0 (n - 1) = true) := e2
  have hid := inB7.1 e2
  by_cases h3 : (rows.length : Int) = n
  rotate_left
  · have g3 : ((rows.length : Int) != n) = true := by simpa using h3
    have HZ : Hid (okMb ⟨id,n,rows,sung,done⟩ = false) := by rw [Hid];simp only [okMb,decide_eq_false h3,Bool.false_and,Bool.and_false]
    clear h3
    go_enter Try.func69,Try.ntmps69
    go_wp2_with (first | (go_at_call 65;refine (l1In_any _ _ _ _).mono ?_;rintro e w' ⟨rfl,hw'⟩;rw [hw'];clear hw'))
    go_ret
    exact ⟨ret_bool (by rw [HZ.out]),HB0.out⟩
  have g3 : ((rows.length : Int) != n) = false := by simpa using h3
  have HE3 : Hid ((rows.length : Int) = n) := h3
  clear h3
  by_cases h4 : sung.length ≤ 60
  rotate_left
  · have g4 : (60 : Int) < (sung.length : Int) := by omega
    have HZ : Hid (okMb ⟨id,n,rows,sung,done⟩ = false) := by rw [Hid];simp only [okMb,decide_eq_false h4,Bool.false_and,Bool.and_false]
    go_enter Try.func69,Try.ntmps69
    go_wp2_with (first | (go_at_call 65;refine (l1In_any _ _ _ _).mono ?_;rintro e w' ⟨rfl,hw'⟩;rw [hw'];clear hw'))
    go_ret
    exact ⟨ret_bool (by rw [HZ.out]),HB0.out⟩
  have g4 : ¬ ((60 : Int) < (sung.length : Int)) := by omega
  cases e5 : risB sung with
  | false =>
    rw [e5] at hR
    have HZ : Hid (okMb ⟨id,n,rows,sung,done⟩ = false) := by rw [Hid];simp only [okMb,e5,Bool.false_and,Bool.and_false]
    go_enter Try.func69,Try.ntmps69
    go_wp2_with (first | (go_at_call 65;refine (l1In_any _ _ _ _).mono ?_;rintro e w' ⟨rfl,hw'⟩;rw [hw'];clear hw') | (go_at_call 115;refine hR.mono ?_;rintro e w2 ⟨rfl,q,hw2⟩;have hb2 : Below W.heap.size W w2 := (by rw [hw2];exact belowN (Below.refl _ _));clear hw2))
    go_ret
    exact ⟨ret_bool (by rw [HZ.out]),HB0.out.trans (hb2.mono HB0.out.size)⟩
  | true =>
  rw [e5] at hR
  have HE5 : Hid (risB sung = true) := e5
  clear e5
  go_enter Try.func69,Try.ntmps69
  go_wp2_with (first | (go_at_call 65;refine (l1In_any _ _ _ _).mono ?_;rintro e w' ⟨rfl,hw'⟩;rw [hw'];clear hw') | (go_at_call 115;refine hR.mono ?_;rintro e w2 ⟨rfl,q,hw2⟩;have hb2 : Below W.heap.size W w2 := (by rw [hw2];exact belowN (Below.refl _ _));clear hw2))
  have HB2 : Hid (Below w.heap.size w w2) := HB0.out.trans (hb2.mono HB0.out.size)
  have HX2 : Hid (Bx w2 w.heap.size 39 #[.int .i64 id,.int .i64 n,.slice ra rows.length rc,.slice sa sung.length sc,.bool done]) := HX.out.below hb2
  have HV2 : Hid (MbS w2 ⟨ra,rc,sa,sc⟩ ⟨id,n,rows,sung,done⟩) := HV.out.below hb2
  unfold maxLen at mr ms
  clear hR hb2 c0 c1 c2 c3 c4 hw0 g3 e1 e2 HX HV HB0 hsu
  go_loopw [3] (fun i wr => ∃ k : Nat,k ≤ rows.length ∧ i = .int .i64 k ∧ (∀ j,j < k → okRw (rowN rows j) n = true) ∧ Below w2.heap.size w2 wr) (fun i _ => rows.length - (intOf i).toNat)
  case atStart => exact ⟨0,Nat.zero_le _,rfl,fun j hj => by omega,Below.refl _ _⟩
  case round =>
    obtain ⟨k,hk,rfl,hall,hgr⟩ := hrel
    have HA : Hid (∀ j,j < k → okRw (rowN rows j) n = true) := hall
    have HG : Hid (Below w2.heap.size w2 wr) := hgr
    obtain ⟨c0,c1,c2,c3,c4⟩ := Bx.r5 (HX2.out.below hgr)
    clear hall
    by_cases hlt : k < rows.length
    · have k1 : (k : Int) < (rows.length : Int) := by omega
      have k0 : (0 : Int) ≤ (k : Int) := by omega
      obtain ⟨g,off,Ak,hra,⟨⟨d0,d1,d2,d3⟩,d4,d5,d6,d7⟩,hrs⟩ := (HV2.out.below hgr).row (k := k) hlt
      simp only at hra hrs d0 d1 d2 d3 d4 d5 d6 d7
      subst hra
      have C : ∀ q : Bk wr,Calls Try.prog 93 #[rwV Ak (rowN rows k),.int .i64 n] q.w fun e w' => e = .returned (.bool (okRw (rowN rows k) n)) ∧ Below q.w.heap.size q.w w' := fun q => rowS_any Ak _ n q.w (hrs.below q.h)
      have HY : Hid (okRw (rowN rows k) n = true → ∀ j,j < k + 1 → okRw (rowN rows j) n = true) := fun h1 j hj => by
        rcases Nat.lt_succ_iff_lt_or_eq.1 hj with h | h
        · exact HA.out j h
        · rw [h];exact h1
      have HNo : Hid (okRw (rowN rows k) n = false → okMb ⟨id,n,rows,sung,done⟩ = false) := fun h => okMb_row (k := k) hlt h
      have p2 : ∀ q : Bk wr,q.w.cell? ⟨w.heap.size,2,none⟩ = _ := fun q => (q.h.cell (World.block_lt_of_cell? _ _ c2)).trans c2
      have p1 : ∀ q : Bk wr,q.w.cell? ⟨w.heap.size,1,none⟩ = _ := fun q => (q.h.cell (World.block_lt_of_cell? _ _ c1)).trans c1
      have r0 : ∀ q : Bk wr,q.w.cell? ⟨g,off + k * 8,none⟩ = _ := fun q => (q.h.cell (World.block_lt_of_cell? _ _ d0)).trans d0
      have r1 : ∀ q : Bk wr,q.w.cell? ⟨g,off + k * 8 + 1,none⟩ = _ := fun q => (q.h.cell (World.block_lt_of_cell? _ _ d1)).trans d1
      have r2 : ∀ q : Bk wr,q.w.cell? ⟨g,off + k * 8 + 2,none⟩ = _ := fun q => (q.h.cell (World.block_lt_of_cell? _ _ d2)).trans d2
      have r3 : ∀ q : Bk wr,q.w.cell? ⟨g,off + k * 8 + 3,none⟩ = _ := fun q => (q.h.cell (World.block_lt_of_cell? _ _ d3)).trans d3
      have r4 : ∀ q : Bk wr,q.w.cell? ⟨g,off + k * 8 + 4,none⟩ = _ := fun q => (q.h.cell (World.block_lt_of_cell? _ _ d4)).trans d4
      have r5 : ∀ q : Bk wr,q.w.cell? ⟨g,off + k * 8 + 5,none⟩ = _ := fun q => (q.h.cell (World.block_lt_of_cell? _ _ d5)).trans d5
      have r6 : ∀ q : Bk wr,q.w.cell? ⟨g,off + k * 8 + 6,none⟩ = _ := fun q => (q.h.cell (World.block_lt_of_cell? _ _ d6)).trans d6
      have r7 : ∀ q : Bk wr,q.w.cell? ⟨g,off + k * 8 + 7,none⟩ = _ := fun q => (q.h.cell (World.block_lt_of_cell? _ _ d7)).trans d7
      unfold rwV rwC at C
      generalize okRw (rowN rows k) n = ob at *
      generalize rowN rows k = r at *
      clear hrs d0 d1 d2 d3 d4 d5 d6 d7 hgr
      go_wp2_with fail
      refine wp_region_bk (by kernel_rfl) (by kernel_rfl) ?_
      repeat (go_big_quiet_step ((first | (go_at_call 93;exact bk_call _ (C _)) | rfl)))
      refine wpQuiet_nil ?_
      intro wE hw'
      obtain ⟨⟨w11,hb11⟩,hw''⟩ := hw'
      have hwe : wE = w11 := hw''
      clear hw''
      subst hwe
      have HGE : Hid (Below w2.heap.size w2 wE) := HG.out.trans (hb11.mono HG.out.size)
      clear p1 p2 r0 r1 r2 r3 r4 r5 r6 r7 C hb11 c0 c1 c2 c3 c4
      cases ob
      · have HZ : Hid (okMb ⟨id,n,rows,sung,done⟩ = false) := HNo.out rfl
        go_wp2
        go_ret
        exact ⟨ret_bool (by rw [HZ.out]),HB2.out.trans (HGE.out.mono HB2.out.size)⟩
      · have HN2 := HY.out rfl
        go_wp2
        go_roundw
        case rel => exact ⟨k + 1,by omega,by go_num,HN2,HGE.out⟩
        case measure => simp [intOf];omega
    · have k1 : ¬ ((k : Int) < (rows.length : Int)) := by omega
      have HAll : Hid (∀ j,j < rows.length → okRw (rowN rows j) n = true) := fun j hj => HA.out j (by omega)
      have HV3 : Hid (MbS wr ⟨ra,rc,sa,sc⟩ ⟨id,n,rows,sung,done⟩) := HV2.out.below hgr
      have HB3 : Hid (Below w.heap.size w wr) := HB2.out.trans (hgr.mono HB2.out.size)
      have hsu := HV3.out.sung
      simp only at hsu
      clear HA hgr HG HX2 HV2 HB2
      go_wp2
      go_loop [4] (fun i => ∃ k : Nat,k ≤ sung.length ∧ i = .int .i64 k ∧ ∀ j,j < k → (inB (el sung j) 0 59 && (done || decide (el sung j = (j : Int)))) = true) (fun i => sung.length - (intOf i).toNat)
      case atStart => exact ⟨0,Nat.zero_le _,rfl,fun j hj => by omega⟩
      case round =>
        obtain ⟨k,hk,rfl,hall⟩ := hrel
        have HA : Hid (∀ j,j < k → (inB (el sung j) 0 59 && (done || decide (el sung j = (j : Int)))) = true) := hall
        clear hall
        by_cases hlt : k < sung.length
        · have HNo : Hid ((inB (el sung k) 0 59 && (done || decide (el sung k = (k : Int)))) = false → okMb ⟨id,n,rows,sung,done⟩ = false) := fun h => okMb_sg (m := ⟨id,n,rows,sung,done⟩) (k := k) hlt h
          have HY : Hid ((inB (el sung k) 0 59 && (done || decide (el sung k = (k : Int)))) = true → ∀ j,j < k + 1 → (inB (el sung j) 0 59 && (done || decide (el sung j = (j : Int)))) = true) := fun h1 j hj => by
            rcases Nat.lt_succ_iff_lt_or_eq.1 hj with h | h
            · exact HA.out j h
            · rw [h];exact h1
          rcases hsu.2.2 with h0 | ⟨b,off,rfl,hc⟩
          · omega
          have hck := hc k hlt
          have k1 : (k : Int) < (sung.length : Int) := by omega
          have k0 : (0 : Int) ≤ (k : Int) := by omega
          clear hc
          generalize el sung k = x at *
          cases e1 : inB x 0 59 with
          | false =>
            have HZ : Hid (okMb ⟨id,n,rows,sung,done⟩ = false) := HNo.out (by rw [e1];rfl)
            go_wp2_with (first | (go_at_call 65;refine (l1In_any _ _ _ _).mono ?_;rintro e w' ⟨rfl,hw'⟩;rw [hw'];clear hw'))
            go_ret
            exact ⟨ret_bool (by rw [HZ.out]),HB3.out⟩
          | true =>
          cases done with
          | true =>
            have HN := HY.out (by rw [e1];rfl)
            have HNN : Hid (∀ j,j < k + 1 → (inB (el sung j) 0 59 && (true || decide (el sung j = (j : Int)))) = true) := HN
            clear HN HY HNo
            go_wp2_with (first | (go_at_call 65;refine (l1In_any _ _ _ _).mono ?_;rintro e w' ⟨rfl,hw'⟩;rw [hw'];clear hw'))
            go_round
            case rel => exact ⟨k + 1,by omega,by go_num,HNN.out⟩
            case measure => simp [intOf];omega
          | false =>
          by_cases hxk : x = (k : Int)
          · have g : (x != (k : Int)) = false := by simpa using hxk
            have HN := HY.out (by rw [e1];simp [hxk])
            have HNN : Hid (∀ j,j < k + 1 → (inB (el sung j) 0 59 && (false || decide (el sung j = (j : Int)))) = true) := HN
            clear HN HY HNo hxk
            go_wp2_with (first | (go_at_call 65;refine (l1In_any _ _ _ _).mono ?_;rintro e w' ⟨rfl,hw'⟩;rw [hw'];clear hw'))
            go_round
            case rel => exact ⟨k + 1,by omega,by go_num,HNN.out⟩
            case measure => simp [intOf];omega
          · have g : (x != (k : Int)) = true := by simpa using hxk
            have HZ : Hid (okMb ⟨id,n,rows,sung,false⟩ = false) := HNo.out (by rw [e1];simp [hxk])
            clear hxk HY HNo
            go_wp2_with (first | (go_at_call 65;refine (l1In_any _ _ _ _).mono ?_;rintro e w' ⟨rfl,hw'⟩;rw [hw'];clear hw'))
            go_ret
            exact ⟨ret_bool (by rw [HZ.out]),HB3.out⟩
        · have k1 : ¬ ((k : Int) < (sung.length : Int)) := by omega
          obtain ⟨I,rfl⟩ : ∃ I : Nat,id = (I : Int) := ⟨id.toNat,by omega⟩
          have HEnd : Hid (okMb ⟨(I : Int),n,rows,sung,done⟩ = (decide (el (rowN rows I).got I = ((rowN rows I).txt.length : Int)) && (decide ((I : Int) ∉ (rowN rows I).sus) && (!done || (rowN rows I).rdy)))) := okMb_end (m := ⟨(I : Int),n,rows,sung,done⟩) HE1.out HE2.out HE3.out h4 HE5.out HAll.out (fun j hj => HA.out j (by have : j < sung.length := hj;omega))
          have hil : I < rows.length := by have := HE3.out;omega
          have i0 : (0 : Int) ≤ (I : Int) := hid.1
          have i1 : (I : Int) < (rows.length : Int) := by have := HE3.out;omega
          have hgl := okRw_len (HAll.out I hil)
          obtain ⟨g,off,Ak,hra,⟨⟨d0,d1,d2,d3⟩,d4,d5,d6,d7⟩,hrs⟩ := HV3.out.row (k := I) hil
          simp only at hra hrs d0 d1 d2 d3 d4 d5 d6 d7
          subst hra
          have hH := fun X (h : Below wr.heap.size wr X) => l1Has_any Ak.sa (rowN rows I).sus.length Ak.sc (I : Int) (rowN rows I).sus X (hrs.sus.below h (Nat.le_refl _)) hrs.ms
          rcases hrs.got.2.2 with h0 | ⟨gb,go,hga,hgc⟩
          · omega
          have hge := hgc I (by omega)
          have i2 : (I : Int) < ((rowN rows I).got.length : Int) := by omega
          rw [hga] at d2
          have hbo := oneA16 wr (.cells #[.int .i64 (rowN rows I).ver,.slice Ak.ta (rowN rows I).txt.length Ak.tc,.slice (some ⟨gb,go,none⟩) (rowN rows I).got.length Ak.gc,.slice Ak.sa (rowN rows I).sus.length Ak.sc,.bool (rowN rows I).wed,.bool (rowN rows I).rdy,.int .i64 (rowN rows I).by_,.slice Ak.ma (rowN rows I).trm.length Ak.mc] 51)
          have hxo := Bx.new wr 51 #[.int .i64 (rowN rows I).ver,.slice Ak.ta (rowN rows I).txt.length Ak.tc,.slice (some ⟨gb,go,none⟩) (rowN rows I).got.length Ak.gc,.slice Ak.sa (rowN rows I).sus.length Ak.sc,.bool (rowN rows I).wed,.bool (rowN rows I).rdy,.int .i64 (rowN rows I).by_,.slice Ak.ma (rowN rows I).trm.length Ak.mc]
          generalize rowN rows I = r at *
          generalize hWo : wr.alloc (.cells #[.int .i64 r.ver,.slice Ak.ta r.txt.length Ak.tc,.slice (some ⟨gb,go,none⟩) r.got.length Ak.gc,.slice Ak.sa r.sus.length Ak.sc,.bool r.wed,.bool r.rdy,.int .i64 r.by_,.slice Ak.ma r.trm.length Ak.mc] 51) = Wo at *
          have C : ∀ q : Bk Wo,Calls Try.prog 116 #[.slice Ak.sa r.sus.length Ak.sc,.int .i64 (I : Int)] q.w fun e w' => e = .returned (.bool (decide ((I : Int) ∈ r.sus))) ∧ Below q.w.heap.size q.w w' := fun q => (hH q.w (hbo.trans (q.h.mono hbo.size))).mono (fun e w' h => ⟨h.1,by rw [h.2];exact Below.refl _ _⟩)
          obtain ⟨⟨y0,y1,y2,y3⟩,y4,y5,y6,y7⟩ := Bx.r8 hxo
          have z0 : Wo.cell? ⟨w.heap.size,0,none⟩ = _ := (hbo.cell (World.block_lt_of_cell? _ _ c0)).trans c0
          have z4 : Wo.cell? ⟨w.heap.size,4,none⟩ = _ := (hbo.cell (World.block_lt_of_cell? _ _ c4)).trans c4
          have hgo : Wo.cell? ⟨gb,go + I,none⟩ = _ := (hbo.cell (World.block_lt_of_cell? _ _ hge)).trans hge
          have x1 : ∀ q : Bk Wo,q.w.cell? ⟨wr.heap.size,1,none⟩ = _ := fun q => (q.h.cell (World.block_lt_of_cell? _ _ y1)).trans y1
          have x2 : ∀ q : Bk Wo,q.w.cell? ⟨wr.heap.size,2,none⟩ = _ := fun q => (q.h.cell (World.block_lt_of_cell? _ _ y2)).trans y2
          have x3 : ∀ q : Bk Wo,q.w.cell? ⟨wr.heap.size,3,none⟩ = _ := fun q => (q.h.cell (World.block_lt_of_cell? _ _ y3)).trans y3
          have x5 : ∀ q : Bk Wo,q.w.cell? ⟨wr.heap.size,5,none⟩ = _ := fun q => (q.h.cell (World.block_lt_of_cell? _ _ y5)).trans y5
          have v0 : ∀ q : Bk Wo,q.w.cell? ⟨w.heap.size,0,none⟩ = _ := fun q => (q.h.cell (World.block_lt_of_cell? _ _ z0)).trans z0
          have v4 : ∀ q : Bk Wo,q.w.cell? ⟨w.heap.size,4,none⟩ = _ := fun q => (q.h.cell (World.block_lt_of_cell? _ _ z4)).trans z4
          have vg : ∀ q : Bk Wo,q.w.cell? ⟨gb,go + I,none⟩ = _ := fun q => (q.h.cell (World.block_lt_of_cell? _ _ hgo)).trans hgo
          have HB5 : Hid (Below w.heap.size w Wo) := HB3.out.trans (hbo.mono HB3.out.size)
          clear hgc hge hH hxo hbo HA hrs HAll HV3 hsu y0 y1 y2 y3 y4 y5 y6 y7 z0 z4 hgo
          have HEq : Hid (((el r.got I == (r.txt.length : Int)) && (!(decide ((I : Int) ∈ r.sus)) && (!done || r.rdy))) = okMb ⟨(I : Int),n,rows,sung,done⟩) := by
            rw [Hid,HEnd.out]
            simp only [decide_not]
            rfl
          generalize hrd : r.rdy = rd at *
          generalize hel : el r.got I = eg at *
          cases e7 : (eg == (r.txt.length : Int)) <;> cases e8 : decide ((I : Int) ∈ r.sus) <;> cases done <;> rw [e7,e8] at HEq <;> rw [e8] at C <;>
           (go_wp2_with fail
            refine wp_region_bk (by kernel_rfl) (by kernel_rfl) ?_
            repeat (go_big_quiet_step ((first | (go_at_call 116;exact bk_call _ (C _)) | rfl)))
            refine wpQuiet_nil ?_
            intro wE hw'
            obtain ⟨⟨w11,hb11⟩,hw''⟩ := hw'
            have hwe : wE = w11 := hw''
            clear hw''
            subst hwe
            have HBE : Hid (Below w.heap.size w wE) := HB5.out.trans (hb11.mono HB5.out.size)
            go_wp2
            go_ret
            exact ⟨ret_bool (by rw [← HEq.out];try rfl),HBE.out⟩)
end Go.Proofs.Ythioodpmgifomaa
namespace Go.Proofs.Ythioodpmgifomaa
set_option linter.unusedSimpArgs false
set_option linter.unusedVariables false
open Go.RowKit Go.Sort
section
variable {P : Program} {ops : Array Oper} {Q : Exit → Act → World → Prop} {md : Region.Mode} {S : World → Prop}
end
section
variable {P : Program} {l : List Oper} {Q : Exit → Act → World → Prop} {S : World → Prop}
end
end Go.Proofs.Ythioodpmgifomaa
namespace Go.Proofs.Ythioodpmgifomaa
set_option linter.unusedVariables false
set_option linter.unusedSimpArgs false
open Go.RowKit Go.Sort
section
variable {P : Program} {l : List Oper} {Q : Exit → Act → World → Prop} {S : World → Prop}
end
section
variable {P : Program} {ops : Array Oper} {Q : Exit → Act → World → Prop} {md : Region.Mode} {S : World → Prop}
end
section
variable {P : Program} {l : List Oper} {Q : Exit → Act → World → Prop} {S : World → Prop}
end
end Go.Proofs.Ythioodpmgifomaa
namespace Go.Proofs.Ythioodpmgifomaa
set_option linter.unusedVariables false
set_option linter.unusedSimpArgs false
open Go.RowKit Go.Sort
theorem mixed17 : Try.prog.follows .mixedOrders = true := by kernel_rfl
theorem owL_v {w : World} {x : Value} {cs : List Cel} {us : List Value} {f : Fp} (h : owL w cs us f) : owL w (.v x :: cs) (x :: us) f := ⟨x,us,fun _ => False,f,rfl,⟨rfl,fun _ h => h⟩,h,fun _ h => absurd h id,fun b => by simp⟩
theorem owL_v' {w : World} {x : Value} {cs : List Cel} {us : List Value} {f : Fp} (h : owL w (.v x :: cs) us f) : ∃ us',us = x :: us' ∧ owL w cs us' f := by
 obtain ⟨u,us',f1,f2,rfl,⟨rfl,h1⟩,h2,hd,hf⟩ := h
 exact ⟨us',rfl,owL_congr h2 (fun b => (hf b).trans ⟨fun h => h.elim (fun h => absurd h (h1 b)) id,.inr⟩)⟩
theorem owL_c {w : World} {c : Cel} {u : Value} {cs : List Cel} {us : List Value} {f1 f2 : Fp} (h1 : Cel.ow w c u f1) (h2 : owL w cs us f2) (hd : ∀ b,f1 b → ¬ f2 b) : owL w (c :: cs) (u :: us) (fun b => f1 b ∨ f2 b) := ⟨u,us,f1,f2,rfl,h1,h2,hd,fun b => Iff.rfl⟩
theorem ow_rw8 {w : World} {A : Ra} {r : Rw} {f : Fp} (h : owL w (rwCels r) (rwVals A r) f) : owL w (rw8 r) (rwC A r).toList f := by
 obtain ⟨u1,us1,f1,g1,e1,o1,h2,d1,i1⟩ := h
 cases e1
 obtain ⟨u2,us2,f2,g2,e2,o2,h3,d2,i2⟩ := h2
 cases e2
 obtain ⟨u3,us3,f3,g3,e3,o3,h4,d3,i3⟩ := h3
 cases e3
 exact owL_v ⟨_,_,f1,g1,rfl,o1,⟨_,_,f2,g2,rfl,o2,⟨_,_,f3,g3,rfl,o3,owL_v (owL_v (owL_v h4)),d3,i3⟩,d2,i2⟩,d1,i1⟩
theorem rw8_ow {w : World} {r : Rw} {us : List Value} {f : Fp} (h : owL w (rw8 r) us f) : ∃ A : Ra,us = (rwC A r).toList ∧ owL w (rwCels r) (rwVals A r) f := by
 obtain ⟨us0,rfl,hq0⟩ := owL_v' h
 obtain ⟨u1,us1,f1,g1,rfl,o1,h2,d1,i1⟩ := hq0
 obtain ⟨u2,us2,f2,g2,rfl,o2,h3,d2,i2⟩ := h2
 obtain ⟨u3,us3,f3,g3,rfl,o3,h4,d3,i3⟩ := h3
 obtain ⟨us4,rfl,hq4⟩ := owL_v' h4
 obtain ⟨us5,rfl,hq5⟩ := owL_v' hq4
 obtain ⟨us6,rfl,hq6⟩ := owL_v' hq5
 obtain ⟨u7,us7,f7,g7,rfl,o7,⟨rfl,h8⟩,d7,i7⟩ := hq6
 obtain ⟨ta,tc,_,rfl,_⟩ := ow_scl.1 o1
 obtain ⟨ga,gc,_,rfl,_⟩ := ow_icl.1 o2
 obtain ⟨sa,sc,_,rfl,_⟩ := ow_icl.1 o3
 obtain ⟨ma,mc,_,rfl,_⟩ := ow_icl.1 o7
 exact ⟨⟨ta,tc,ga,gc,sa,sc,ma,mc⟩,rfl,⟨_,_,f1,g1,rfl,o1,⟨_,_,f2,g2,rfl,o2,⟨_,_,f3,g3,rfl,o3,⟨_,_,f7,g7,rfl,o7,⟨rfl,h8⟩,d7,i7⟩,d3,i3⟩,d2,i2⟩,d1,i1⟩⟩
theorem ow_mb5 {w : World} {A : Ma} {m : Mb} {f : Fp} (h : owL w (mbCels m) (mbVals A m) f) : owL w (mb5 m) (mbC A m).toList f := by
 obtain ⟨u1,us1,f1,g1,e1,o1,h2,d1,i1⟩ := h
 cases e1
 obtain ⟨u2,us2,f2,g2,e2,o2,h3,d2,i2⟩ := h2
 cases e2
 exact owL_v (owL_v ⟨_,_,f1,g1,rfl,o1,⟨_,_,f2,g2,rfl,o2,owL_v h3,d2,i2⟩,d1,i1⟩)
theorem mb5_ow {w : World} {m : Mb} {us : List Value} {f : Fp} (h : owL w (mb5 m) us f) : ∃ A : Ma,us = (mbC A m).toList ∧ owL w (mbCels m) (mbVals A m) f := by
 obtain ⟨us0,rfl,hq0⟩ := owL_v' h
 obtain ⟨us9,rfl,hq1⟩ := owL_v' hq0
 obtain ⟨u1,us1,f1,g1,rfl,o1,h2,d1,i1⟩ := hq1
 obtain ⟨u2,us2,f2,g2,rfl,o2,h3,d2,i2⟩ := h2
 obtain ⟨us4,rfl,⟨rfl,h4⟩⟩ := owL_v' h3
 have o1' := o1
 obtain ⟨ra,rc,_,_,_,rfl,_⟩ := o1'
 obtain ⟨sa,sc,_,rfl,_⟩ := ow_icl.1 o2
 exact ⟨⟨ra,rc,sa,sc⟩,rfl,⟨_,_,f1,g1,rfl,o1,⟨_,_,f2,g2,rfl,o2,⟨rfl,h4⟩,d2,i2⟩,d1,i1⟩⟩
def AnsMb (w w' : World) (e : Ending) (m : Mb) : Prop := ∃ A : Ma,e = .returned (mbV A m) ∧ NewL w w' (mbCels m) (mbVals A m)
theorem ow_lcl0 (w : World) {α : Type} (s : Nat) (F : α → List Cel) : Cel.ow w (lcl s F []) (.slice none 0 0) (fun _ => False) := ⟨none,0,[],none,fun _ => False,rfl,OSo.nil _ _ plainN,⟨rfl,fun _ h => h⟩,fun _ _ h => h,fun b => by simp⟩
theorem ow_mb0 (w : World) : owL w (mbCels zeroMb) (mbVals ⟨none,0,none,0⟩ zeroMb) (fun _ => False) :=
 owL_congr (owL_c (ow_lcl0 w 8 rw8) (owL_c (ow_none_i w) (⟨rfl,fun _ h => h⟩ : owL w [] [] (fun _ => False)) (fun _ _ h => h)) (fun _ h => absurd h id)) (fun b => by simp)
theorem wrt5 (w : World) (g : Nat) {a b c d e : Value} : Wrt (fun x => x = g) w (((((w.setCell ⟨g,0,none⟩ a).setCell ⟨g,1,none⟩ b).setCell ⟨g,2,none⟩ c).setCell ⟨g,3,none⟩ d).setCell ⟨g,4,none⟩ e) :=
 ((((Wrt.set w g 0 a).trans (Wrt.set _ g 1 b) (fun _ _ h => h)).trans (Wrt.set _ g 2 c) (fun _ _ h => h)).trans (Wrt.set _ g 3 d) (fun _ _ h => h)).trans (Wrt.set _ g 4 e) (fun _ _ h => h)
theorem Bx.f5 {w : World} {B : Nat} {T : TypeId} {cs : Array Value} (h : Bx w B T cs) : w.frozen? ⟨B,0,none⟩ = false ∧ w.frozen? ⟨B,1,none⟩ = false ∧ w.frozen? ⟨B,2,none⟩ = false ∧ w.frozen? ⟨B,3,none⟩ = false ∧ w.frozen? ⟨B,4,none⟩ = false := ⟨h.f 0,h.f 1,h.f 2,h.f 3,h.f 4⟩
end Go.Proofs.Ythioodpmgifomaa
namespace Go.Proofs.Ythioodpmgifomaa
set_option linter.unusedVariables false
set_option linter.unusedSimpArgs false
open Go.RowKit Go.Sort
attribute [local irreducible] sv
end Go.Proofs.Ythioodpmgifomaa
namespace Go.Proofs.Ythioodpmgifomaa
set_option linter.unusedVariables false
set_option linter.unusedSimpArgs false
open Go.RowKit Go.Sort
end Go.Proofs.Ythioodpmgifomaa
namespace Go.Proofs.Ythioodpmgifomaa
set_option linter.unusedVariables false
set_option linter.unusedSimpArgs false
open Go.RowKit Go.Sort
def C5 (w : World) (B o : Nat) (x0 x1 x2 x3 x4 : Value) : Prop := w.cell? ⟨B,o,none⟩ = some x0 ∧ w.cell? ⟨B,o + 1,none⟩ = some x1 ∧ w.cell? ⟨B,o + 2,none⟩ = some x2 ∧ w.cell? ⟨B,o + 3,none⟩ = some x3 ∧ w.cell? ⟨B,o + 4,none⟩ = some x4
end Go.Proofs.Ythioodpmgifomaa
namespace Go.Proofs.Ythioodpmgifomaa
set_option linter.unusedVariables false
set_option linter.unusedSimpArgs false
open Go.RowKit Go.Sort
def ocl (L : List Bool) : Cel := .sl 1 L.length (pl (L.map Value.bool))
def UpS (w : World) (a : Option Addr) (L : List Bool) : Prop := L.length = 0 ∨ ∃ b off,a = some ⟨b,off,none⟩ ∧ ∀ i,i < L.length → w.cell? ⟨b,off + i,none⟩ = some (.bool (L.getD i false))
theorem UpS.below {w w' : World} {a : Option Addr} {L : List Bool} (h : UpS w a L) (hb : Below w.heap.size w w') : UpS w' a L := by
 rcases h with h | ⟨b,off,ha,hc⟩
 ·exact .inl h
 ·exact .inr ⟨b,off,ha,fun i hi => (hb.cell (World.block_lt_of_cell? _ _ (hc i hi))).trans (hc i hi)⟩
theorem vw_ocl {w : World} {L : List Bool} {u : Value} (h : Cel.vw w (ocl L) u) : ∃ a c,u = .slice a L.length c ∧ UpS w a L ∧ L.length ≤ c ∧ c ≤ maxLen := by
 obtain ⟨a,c,us,rfl,h1,h2,h3,h,hl⟩ := h
 have e := vwL_pl.1 hl
 subst e
 refine ⟨a,c,rfl, ?_,h1,h2⟩
 rcases h with h | ⟨b,off,ha,hc⟩
 ·exact .inl h
 ·refine .inr ⟨b,off,ha,fun i hi => ?_⟩
  rw [hc i (by omega)]
  simp [List.getD,hi]
def ml10 (x : Ml) : List Cel := .v (.int .i64 x.fr) :: .v (.int .i64 x.to) :: rw8 x.row
theorem ml10_len (x : Ml) : (ml10 x).length = 10 := rfl
structure Ga where
 ma : Option Addr
 mc : Nat
 ua : Option Addr
 uc : Nat
 la : Option Addr
 lc : Nat
def grC (A : Ga) (g : Gr) : Array Value := #[.slice A.ma g.mem.length A.mc,.slice A.ua g.up.length A.uc,.slice A.la g.mail.length A.lc]
def grV (A : Ga) (g : Gr) : Value := .agg (grC A g)
def gr3 (g : Gr) : List Cel := [lcl 5 mb5 g.mem,ocl g.up,lcl 10 ml10 g.mail]
def grVals (A : Ga) (g : Gr) : List Value := [.slice A.ma g.mem.length A.mc,.slice A.ua g.up.length A.uc,.slice A.la g.mail.length A.lc]
def FitG (g : Gr) : Prop := (∀ m ∈ g.mem,FitM m) ∧ ∀ x ∈ g.mail,FitR x.row
structure GrS (w : World) (A : Ga) (g : Gr) : Prop where
 mem : Cel.vw w (lcl 5 mb5 g.mem) (.slice A.ma g.mem.length A.mc)
 up : UpS w A.ua g.up
 mail : Cel.vw w (lcl 10 ml10 g.mail) (.slice A.la g.mail.length A.lc)
 lm : g.mem.length ≤ maxLen
 lu : g.up.length ≤ maxLen
 ll : g.mail.length ≤ maxLen
 fit : FitG g
theorem GrS.below {w w' : World} {A : Ga} {g : Gr} (h : GrS w A g) (hb : Below w.heap.size w w') : GrS w' A g := ⟨Cel.vw_below h.mem hb,h.up.below hb,Cel.vw_below h.mail hb,h.lm,h.lu,h.ll,h.fit⟩
theorem grs_of {w : World} {A : Ga} {g : Gr} (h : vwL w (gr3 g) (grVals A g)) (hf : FitG g) : GrS w A g := by
 obtain ⟨u1,us1,e1,h1,h2⟩ := h
 cases e1
 obtain ⟨u2,us2,e2,h3,h4⟩ := h2
 cases e2
 obtain ⟨u3,us3,e3,h5,_⟩ := h4
 cases e3
 obtain ⟨a,c,e,k1,k2,k3⟩ := vw_ocl h3
 cases e
 have l1 := h1
 obtain ⟨_,_,_,e,m1,m2,_⟩ := l1
 cases e
 have l5 := h5
 obtain ⟨_,_,_,e,n1,n2,_⟩ := l5
 cases e
 exact ⟨h1,k1,h5,by omega,by omega,by omega,hf⟩
theorem Pv.mem {w : World} {b o : Nat} {m : Mb} (h : Pv w b o (mb5 m)) (hf : FitM m) : ∃ A : Ma,C5 w b o (.int .i64 m.id) (.int .i64 m.n) (.slice A.ra m.rows.length A.rc) (.slice A.sa m.sung.length A.sc) (.bool m.done) ∧ MbS w A m := by
 obtain ⟨u0,c0,rfl⟩ := h.at (j := 0) rfl
 obtain ⟨u1,c1,rfl⟩ := h.at (j := 1) rfl
 obtain ⟨u2,c2,v2⟩ := h.at (j := 2) rfl
 obtain ⟨u3,c3,v3⟩ := h.at (j := 3) rfl
 obtain ⟨u4,c4,rfl⟩ := h.at (j := 4) rfl
 have k2 := v2
 obtain ⟨ra,rc,_,rfl,r1,r2,_⟩ := k2
 obtain ⟨sa,sc,rfl,s1,s2,s3⟩ := vw_icl v3 hf.2
 exact ⟨⟨ra,rc,sa,sc⟩,⟨c0,c1,c2,c3,c4⟩,v2,s1,by omega,by omega,hf.1⟩
theorem memN_at {g : Gr} {k : Nat} (hk : k < g.mem.length) : g.mem[k]? = some (memN g k) := by simp [memN,List.getD,hk]
theorem GrS.member {w : World} {A : Ga} {g : Gr} (h : GrS w A g) {k : Nat} (hk : k < g.mem.length) : ∃ b off Ak,A.ma = some ⟨b,off,none⟩ ∧ C5 w b (off + k * 5) (.int .i64 (memN g k).id) (.int .i64 (memN g k).n) (.slice Ak.ra (memN g k).rows.length Ak.rc) (.slice Ak.sa (memN g k).sung.length Ak.sc) (.bool (memN g k).done) ∧ MbS w Ak (memN g k) := by
 obtain ⟨b,off,h1,h2⟩ := vw_elF mb5_len h.mem (memN_at hk)
 obtain ⟨Ak,h3,h4⟩ := h2.mem (h.fit.1 _ (List.mem_of_getElem? (memN_at hk)))
 exact ⟨b,off,Ak,h1,h3,h4⟩
theorem mailN_at {g : Gr} {k : Nat} (hk : k < g.mail.length) : g.mail[k]? = some (mailN g k) := by simp [mailN,List.getD,hk]
theorem Pv.mail {w : World} {b o : Nat} {x : Ml} (h : Pv w b o (ml10 x)) (hf : FitR x.row) : ∃ A : Ra,w.cell? ⟨b,o,none⟩ = some (.int .i64 x.fr) ∧ w.cell? ⟨b,o + 1,none⟩ = some (.int .i64 x.to) ∧ C8 w b (o + 2) (.int .i64 x.row.ver) (.slice A.ta x.row.txt.length A.tc) (.slice A.ga x.row.got.length A.gc) (.slice A.sa x.row.sus.length A.sc) (.bool x.row.wed) (.bool x.row.rdy) (.int .i64 x.row.by_) (.slice A.ma x.row.trm.length A.mc) ∧ RwS w A x.row := by
 obtain ⟨u0,c0,rfl⟩ := h.at (j := 0) rfl
 obtain ⟨u1,c1,rfl⟩ := h.at (j := 1) rfl
 have hp : Pv w b (o + 2) (rw8 x.row) := by
  obtain ⟨vs,h1,h2⟩ := h
  obtain ⟨v0,vs0,rfl,_,h3⟩ := h2
  obtain ⟨v1,vs1,rfl,_,h4⟩ := h3
  refine ⟨vs1,fun j hj => ?_,h4⟩
  have := h1 (j + 2) (by simp;omega)
  rw [show o + 2 + j = o + (j + 2) by omega,this]
  rfl
 obtain ⟨A,h3,h4⟩ := hp.row hf
 exact ⟨A,c0,c1,h3,h4⟩
theorem GrS.letter {w : World} {A : Ga} {g : Gr} (h : GrS w A g) {k : Nat} (hk : k < g.mail.length) : ∃ b off Ak,A.la = some ⟨b,off,none⟩ ∧ w.cell? ⟨b,off + k * 10,none⟩ = some (.int .i64 (mailN g k).fr) ∧ w.cell? ⟨b,off + k * 10 + 1,none⟩ = some (.int .i64 (mailN g k).to) ∧ C8 w b (off + k * 10 + 2) (.int .i64 (mailN g k).row.ver) (.slice Ak.ta (mailN g k).row.txt.length Ak.tc) (.slice Ak.ga (mailN g k).row.got.length Ak.gc) (.slice Ak.sa (mailN g k).row.sus.length Ak.sc) (.bool (mailN g k).row.wed) (.bool (mailN g k).row.rdy) (.int .i64 (mailN g k).row.by_) (.slice Ak.ma (mailN g k).row.trm.length Ak.mc) ∧ RwS w Ak (mailN g k).row := by
 obtain ⟨b,off,h1,h2⟩ := vw_elF ml10_len h.mail (mailN_at hk)
 obtain ⟨Ak,h3,h4,h5,h6⟩ := h2.mail (h.fit.2 _ (List.mem_of_getElem? (mailN_at hk)))
 exact ⟨b,off,Ak,h1,h3,h4,h5,h6⟩
end Go.Proofs.Ythioodpmgifomaa
namespace Go.Proofs.Ythioodpmgifomaa
set_option linter.unusedVariables false
set_option linter.unusedSimpArgs false
open Go.RowKit Go.Sort
end Go.Proofs.Ythioodpmgifomaa
namespace Go.Proofs.Ythioodpmgifomaa
set_option linter.unusedVariables false
set_option linter.unusedSimpArgs false
open Go.RowKit Go.Sort
end Go.Proofs.Ythioodpmgifomaa
namespace Go.Proofs.Ythioodpmgifomaa
set_option linter.unusedVariables false
set_option linter.unusedSimpArgs false
open Go.RowKit Go.Sort
end Go.Proofs.Ythioodpmgifomaa
namespace Go.Proofs.Ythioodpmgifomaa
set_option linter.unusedVariables false
set_option linter.unusedSimpArgs false
open Go.RowKit Go.Sort
end Go.Proofs.Ythioodpmgifomaa
namespace Go.Proofs.Ythioodpmgifomaa
set_option linter.unusedVariables false
set_option linter.unusedSimpArgs false
open Go.RowKit Go.Sort
end Go.Proofs.Ythioodpmgifomaa
namespace Go.Proofs.Ythioodpmgifomaa
set_option linter.unusedVariables false
set_option linter.unusedSimpArgs false
open Go.RowKit Go.Sort
def oneMb (g : Gr) (k : Nat) : Bool := okMb (memN g k) && (decide ((memN g k).id = (k : Int)) && decide ((memN g k).n = (g.mem.length : Int)))
theorem okGr_1 {g : Gr} (h : ¬ 1 ≤ g.mem.length) : okGr g = false := by simp only [okGr,decide_eq_false h,Bool.false_and]
theorem okGr_2 {g : Gr} (h : ¬ g.mem.length ≤ 5) : okGr g = false := by simp only [okGr,decide_eq_false h,Bool.false_and,Bool.and_false]
theorem okGr_3 {g : Gr} (h : ¬ g.up.length = g.mem.length) : okGr g = false := by simp only [okGr,decide_eq_false h,Bool.false_and,Bool.and_false]
theorem okGr_4 {g : Gr} (h : ¬ g.mail.length ≤ 200) : okGr g = false := by simp only [okGr,decide_eq_false h,Bool.false_and,Bool.and_false]
theorem okGr_5 {g : Gr} {k : Nat} (hk : k < g.mem.length) (h : oneMb g k = false) : okGr g = false := by
 have : (List.range g.mem.length).all (fun i => okMb (memN g i) && (decide ((memN g i).id = (i : Int)) && decide ((memN g i).n = (g.mem.length : Int)))) = false := by
  rw [List.all_eq_false]
  exact ⟨k,List.mem_range.2 hk,by rw [show (okMb (memN g k) && (decide ((memN g k).id = (k : Int)) && decide ((memN g k).n = (g.mem.length : Int)))) = oneMb g k from rfl,h];simp⟩
 simp only [okGr,this,Bool.false_and,Bool.and_false]
theorem okGr_6 {g : Gr} {k : Nat} (hk : k < g.mail.length) (h : okMl (mailN g k) (g.mem.length : Int) = false) : okGr g = false := by
 have : g.mail.all (fun x => okMl x (g.mem.length : Int)) = false := by
  rw [List.all_eq_false]
  exact ⟨mailN g k,List.mem_of_getElem? (mailN_at hk),by simp [h]⟩
 simp only [okGr,this,Bool.false_and,Bool.and_false]
theorem okGr_yes {g : Gr} (h1 : 1 ≤ g.mem.length) (h2 : g.mem.length ≤ 5) (h3 : g.up.length = g.mem.length) (h4 : g.mail.length ≤ 200) (h5 : ∀ k,k < g.mem.length → oneMb g k = true) (h6 : ∀ k,k < g.mail.length → okMl (mailN g k) (g.mem.length : Int) = true) : okGr g = true := by
 have e5 : (List.range g.mem.length).all (fun i => okMb (memN g i) && (decide ((memN g i).id = (i : Int)) && decide ((memN g i).n = (g.mem.length : Int)))) = true := by
  rw [List.all_eq_true]
  intro k hk
  exact h5 k (List.mem_range.1 hk)
 have e6 : g.mail.all (fun x => okMl x (g.mem.length : Int)) = true := by
  rw [List.all_eq_true]
  intro x hx
  obtain ⟨j,hj,rfl⟩ := List.mem_iff_getElem.1 hx
  have := h6 j hj
  simpa [mailN,List.getD,hj] using this
 simp only [okGr,h1,h2,h3,h4,e5,e6,decide_true,Bool.true_and]
end Go.Proofs.Ythioodpmgifomaa
namespace Go.Proofs.Ythioodpmgifomaa
set_option linter.unusedVariables false
set_option linter.unusedSimpArgs false
open Go.RowKit Go.Sort
theorem Bx.g3 {w : World} {B : Nat} {T : TypeId} {x0 x1 x2 : Value} (h : Bx w B T #[x0,x1,x2]) : w.cell? ⟨B,0,none⟩ = some x0 ∧ w.cell? ⟨B,1,none⟩ = some x1 ∧ w.cell? ⟨B,2,none⟩ = some x2 :=
 ⟨h.at 0 rfl,h.at 1 rfl,h.at 2 rfl⟩
theorem Bx.r10 {w : World} {B : Nat} {T : TypeId} {x0 x1 x2 x3 x4 x5 x6 x7 x8 x9 : Value} (h : Bx w B T #[x0,x1,x2,x3,x4,x5,x6,x7,x8,x9]) : (w.cell? ⟨B,0,none⟩ = some x0 ∧ w.cell? ⟨B,1,none⟩ = some x1) ∧ (w.cell? ⟨B,2,none⟩ = some x2 ∧ w.cell? ⟨B,3,none⟩ = some x3 ∧ w.cell? ⟨B,4,none⟩ = some x4 ∧ w.cell? ⟨B,5,none⟩ = some x5) ∧ w.cell? ⟨B,6,none⟩ = some x6 ∧ w.cell? ⟨B,7,none⟩ = some x7 ∧ w.cell? ⟨B,8,none⟩ = some x8 ∧ w.cell? ⟨B,9,none⟩ = some x9 :=
 ⟨⟨h.at 0 rfl,h.at 1 rfl⟩,⟨h.at 2 rfl,h.at 3 rfl,h.at 4 rfl,h.at 5 rfl⟩,h.at 6 rfl,h.at 7 rfl,h.at 8 rfl,h.at 9 rfl⟩
set_option maxRecDepth 100000 in
set_option maxHeartbeats 3200000 in
theorem grkS_any (A : Ga) (g : Gr) (w : World) (hv : GrS w A g) :
  Calls Try.prog 40 #[grV A g] w fun e w' => e = .returned (.bool (okGr g)) ∧ Below w.heap.size w w' := by
 have hB0 := oneA16 w (.cells (grC A g) 66)
 have hx := Bx.new w 66 (grC A g)
 have h0 := hv.below hB0
 generalize hW : w.alloc (.cells (grC A g) 66) = W at *
 obtain ⟨mem,up,mail⟩ := g
 obtain ⟨ma,mc,ua,uc,la,lc⟩ := A
 have hw0 : w.alloc (.cells #[.slice ma mem.length mc,.slice ua up.length uc,.slice la mail.length lc] 66) = W := hW
 obtain ⟨c0,c1,c2⟩ := Bx.g3 hx
 have HX : Hid (Bx W w.heap.size 66 #[.slice ma mem.length mc,.slice ua up.length uc,.slice la mail.length lc]) := hx
 have HV : Hid (GrS W ⟨ma,mc,ua,uc,la,lc⟩ ⟨mem,up,mail⟩) := h0
 have lm := h0.lm
 have lu := h0.lu
 have ll := h0.ll
 simp only at lm lu ll c0 c1 c2
 unfold maxLen at lm lu ll
 have HB0 : Hid (Below w.heap.size w W) := hB0
 unfold grV grC
 clear hv hx hW hB0 h0
 simp only
 by_cases h1 : 1 ≤ mem.length
 rotate_left
 ·have gn : (mem.length : Int) < 1 := by omega
  have HZ : Hid (okGr ⟨mem,up,mail⟩ = false) := okGr_1 (g := ⟨mem,up,mail⟩) h1
  go_enter Try.func40,Try.ntmps40
  go_wp2
  go_ret
  exact ⟨ret_bool (by rw [HZ.out]),HB0.out⟩
 have g1 : ¬ ((mem.length : Int) < 1) := by omega
 by_cases h2 : mem.length ≤ 5
 rotate_left
 ·have gn : (5 : Int) < (mem.length : Int) := by omega
  have HZ : Hid (okGr ⟨mem,up,mail⟩ = false) := okGr_2 (g := ⟨mem,up,mail⟩) h2
  go_enter Try.func40,Try.ntmps40
  go_wp2
  go_ret
  exact ⟨ret_bool (by rw [HZ.out]),HB0.out⟩
 have g2 : ¬ ((5 : Int) < (mem.length : Int)) := by omega
 by_cases h3 : up.length = mem.length
 rotate_left
 ·have gn : ((up.length : Int) != (mem.length : Int)) = true := by simp;omega
  have HZ : Hid (okGr ⟨mem,up,mail⟩ = false) := okGr_3 (g := ⟨mem,up,mail⟩) h3
  clear h3
  go_enter Try.func40,Try.ntmps40
  go_wp2
  go_ret
  exact ⟨ret_bool (by rw [HZ.out]),HB0.out⟩
 have g3 : ((up.length : Int) != (mem.length : Int)) = false := by simp;omega
 have HE3 : Hid (up.length = mem.length) := h3
 clear h3
 by_cases h4 : mail.length ≤ 200
 rotate_left
 ·have gn : (200 : Int) < (mail.length : Int) := by omega
  have HZ : Hid (okGr ⟨mem,up,mail⟩ = false) := okGr_4 (g := ⟨mem,up,mail⟩) h4
  go_enter Try.func40,Try.ntmps40
  go_wp2
  go_ret
  exact ⟨ret_bool (by rw [HZ.out]),HB0.out⟩
 have g4 : ¬ ((200 : Int) < (mail.length : Int)) := by omega
 go_enter Try.func40,Try.ntmps40
 go_wp2
 clear hw0 g1 g2 g3 g4 c0 c1 c2
 go_loopw [4] (fun i wr => ∃ k : Nat,k ≤ mem.length ∧ i = .int .i64 k ∧ (∀ j,j < k → oneMb ⟨mem,up,mail⟩ j = true) ∧ Below W.heap.size W wr) (fun i _ => mem.length - (intOf i).toNat)
 case atStart => exact ⟨0,Nat.zero_le _,rfl,fun j hj => by omega,Below.refl _ _⟩
 case round =>
  obtain ⟨k,hk,rfl,hall,hgr⟩ := hrel
  have HA : Hid (∀ j,j < k → oneMb ⟨mem,up,mail⟩ j = true) := hall
  have HG : Hid (Below W.heap.size W wr) := hgr
  obtain ⟨c0,c1,c2⟩ := Bx.g3 (HX.out.below hgr)
  clear hall
  by_cases hlt : k < mem.length
  ·have k1 : (k : Int) < (mem.length : Int) := by omega
   have k0 : (0 : Int) ≤ (k : Int) := by omega
   obtain ⟨b,off,Ak,hma,⟨d0,d1,d2,d3,d4⟩,hms⟩ := (HV.out.below hgr).member (k := k) hlt
   simp only at hma d0 d1 d2 d3 d4
   have HY : Hid (oneMb ⟨mem,up,mail⟩ k = true → ∀ j,j < k + 1 → oneMb ⟨mem,up,mail⟩ j = true) := fun h1 j hj => by
    rcases Nat.lt_succ_iff_lt_or_eq.1 hj with h | h
    ·exact HA.out j h
    ·rw [h];exact h1
   have HNo : Hid (oneMb ⟨mem,up,mail⟩ k = false → okGr ⟨mem,up,mail⟩ = false) := fun h => okGr_5 (g := ⟨mem,up,mail⟩) hlt h
   have HOne : Hid (oneMb ⟨mem,up,mail⟩ k = (okMb (memN ⟨mem,up,mail⟩ k) && (decide ((memN ⟨mem,up,mail⟩ k).id = (k : Int)) && decide ((memN ⟨mem,up,mail⟩ k).n = (mem.length : Int))))) := rfl
   generalize oneMb ⟨mem,up,mail⟩ k = on at *
   generalize memN ⟨mem,up,mail⟩ k = m at *
   have hM : ∀ X,Below wr.heap.size wr X → Calls Try.prog 69 #[mbV Ak m] X fun e w' => e = .returned (.bool (okMb m)) ∧ Below X.heap.size X w' := fun X h => mbkS_any Ak m X (hms.below h)
   have hwn := oneA16 wr (.cells (mbC Ak m) 39)
   have hxn := Bx.new wr 39 (mbC Ak m)
   subst hma
   clear hms hgr
   generalize okMb m = ob at *
   obtain ⟨id,n,rows,sung,done⟩ := m
   obtain ⟨ra,rc,sa,sc⟩ := Ak
   simp only [mbV,mbC] at d0 d1 d2 d3 d4 hM hwn hxn HOne
   generalize hWn : wr.alloc (.cells #[.int .i64 id,.int .i64 n,.slice ra rows.length rc,.slice sa sung.length sc,.bool done] 39) = Wn at *
   have hMn := hM Wn hwn
   have HGn : Hid (Below W.heap.size W Wn) := HG.out.trans (hwn.mono HG.out.size)
   have HXn : Hid (Bx Wn wr.heap.size 39 #[.int .i64 id,.int .i64 n,.slice ra rows.length rc,.slice sa sung.length sc,.bool done]) := hxn
   obtain ⟨e0,e1,e2,e3,e4⟩ := Bx.r5 hxn
   clear hM hwn hxn
   have HB1 : Hid (∀ X,Below W.heap.size W X → Below w.heap.size w X) := fun X h => HB0.out.trans (h.mono HB0.out.size)
   cases ob with
   | false =>
    have HZ : Hid (okGr ⟨mem,up,mail⟩ = false) := HNo.out (by rw [HOne.out];rfl)
    go_wp2_with (go_at_call 69;refine hMn.mono ?_;rintro e w1 ⟨rfl,hb1⟩;have HG1 : Hid (Below W.heap.size W w1) := (HGn.out.trans (hb1.mono HGn.out.size));clear e0 e1 e2 e3 e4;obtain ⟨e0,e1,e2,e3,e4⟩ := Bx.r5 (HXn.out.below hb1);clear hb1)
    go_ret
    exact ⟨ret_bool (by rw [HZ.out]),HB1.out _ HG1.out⟩
   | true =>
   by_cases hid : id = (k : Int)
   rotate_left
   ·have gid : (id != (k : Int)) = true := by simpa using hid
    have HZ : Hid (okGr ⟨mem,up,mail⟩ = false) := HNo.out (by rw [HOne.out,decide_eq_false hid];rfl)
    clear hid
    go_wp2_with (go_at_call 69;refine hMn.mono ?_;rintro e w1 ⟨rfl,hb1⟩;have HG1 : Hid (Below W.heap.size W w1) := (HGn.out.trans (hb1.mono HGn.out.size));clear e0 e1 e2 e3 e4;obtain ⟨e0,e1,e2,e3,e4⟩ := Bx.r5 (HXn.out.below hb1);clear hb1)
    go_ret
    exact ⟨ret_bool (by rw [HZ.out]),HB1.out _ HG1.out⟩
   have gid : (id != (k : Int)) = false := by simpa using hid
   by_cases hn : n = (mem.length : Int)
   rotate_left
   ·have gn : (n != (mem.length : Int)) = true := by simpa using hn
    have HZ : Hid (okGr ⟨mem,up,mail⟩ = false) := HNo.out (by rw [HOne.out,decide_eq_false hn];simp)
    clear hn hid
    go_wp2_with (go_at_call 69;refine hMn.mono ?_;rintro e w1 ⟨rfl,hb1⟩;have HG1 : Hid (Below W.heap.size W w1) := (HGn.out.trans (hb1.mono HGn.out.size));clear e0 e1 e2 e3 e4;obtain ⟨e0,e1,e2,e3,e4⟩ := Bx.r5 (HXn.out.below hb1);clear hb1)
    go_ret
    exact ⟨ret_bool (by rw [HZ.out]),HB1.out _ HG1.out⟩
   have gn : (n != (mem.length : Int)) = false := by simpa using hn
   have HN : Hid (∀ j,j < k + 1 → oneMb ⟨mem,up,mail⟩ j = true) := HY.out (by rw [HOne.out,decide_eq_true hid,decide_eq_true hn];rfl)
   clear hid hn
   go_wp2_with (go_at_call 69;refine hMn.mono ?_;rintro e w1 ⟨rfl,hb1⟩;have HG1 : Hid (Below W.heap.size W w1) := (HGn.out.trans (hb1.mono HGn.out.size));clear e0 e1 e2 e3 e4;obtain ⟨e0,e1,e2,e3,e4⟩ := Bx.r5 (HXn.out.below hb1);clear hb1)
   go_roundw
   case rel => exact ⟨k + 1,by omega,by go_num,HN.out,HG1.out⟩
   case measure => simp [intOf];omega
  ·have k1 : ¬ ((k : Int) < (mem.length : Int)) := by omega
   have HAll : Hid (∀ j,j < mem.length → oneMb ⟨mem,up,mail⟩ j = true) := fun j hj => HA.out j (by omega)
   have hwn : wrap64 ((mem.length : Int) - 1) = (mem.length : Int) - 1 := by unfold wrap64;omega
   clear HA hgr
   go_wp2
   clear c0 c1 c2
   generalize wr = V at *
   go_loopw [6] (fun i wr => ∃ k : Nat,k ≤ mail.length ∧ i = .int .i64 k ∧ (∀ j,j < k → okMl (mailN ⟨mem,up,mail⟩ j) (mem.length : Int) = true) ∧ Below W.heap.size W wr) (fun i _ => mail.length - (intOf i).toNat)
   case atStart => exact ⟨0,Nat.zero_le _,rfl,fun j hj => by omega,HG.out⟩
   case round =>
    obtain ⟨q,hq,rfl,hall,hgr⟩ := hrel
    have HA : Hid (∀ j,j < q → okMl (mailN ⟨mem,up,mail⟩ j) (mem.length : Int) = true) := hall
    have HG2 : Hid (Below W.heap.size W wr) := hgr
    obtain ⟨c0,c1,c2⟩ := Bx.g3 (HX.out.below hgr)
    clear hall
    have HB1 : Hid (∀ X,Below W.heap.size W X → Below w.heap.size w X) := fun X h => HB0.out.trans (h.mono HB0.out.size)
    by_cases hlq : q < mail.length
    ·have q1 : (q : Int) < (mail.length : Int) := by omega
     have q0 : (0 : Int) ≤ (q : Int) := by omega
     obtain ⟨b,off,Ak,hla,d0,d1,⟨⟨d2,d3,d4,d5⟩,d6,d7,d8,d9⟩,hrs⟩ := (HV.out.below hgr).letter (k := q) hlq
     simp only at hla d0 d1 d2 d3 d4 d5 d6 d7 d8 d9
     rw [Nat.add_assoc] at d3 d4 d5 d6 d7 d8 d9
     have HY : Hid (okMl (mailN ⟨mem,up,mail⟩ q) (mem.length : Int) = true → ∀ j,j < q + 1 → okMl (mailN ⟨mem,up,mail⟩ j) (mem.length : Int) = true) := fun h1 j hj => by
      rcases Nat.lt_succ_iff_lt_or_eq.1 hj with h | h
      ·exact HA.out j h
      ·rw [h];exact h1
     have HNo : Hid (okMl (mailN ⟨mem,up,mail⟩ q) (mem.length : Int) = false → okGr ⟨mem,up,mail⟩ = false) := fun h => okGr_6 (g := ⟨mem,up,mail⟩) hlq h
     generalize mailN ⟨mem,up,mail⟩ q = x at *
     obtain ⟨fr,tt,r⟩ := x
     have HOne : Hid (okMl ⟨fr,tt,r⟩ (mem.length : Int) = (inB fr 0 ((mem.length : Int) - 1) && (inB tt 0 ((mem.length : Int) - 1) && (decide (fr ≠ tt) && okRw r (mem.length : Int))))) := rfl
     generalize okMl ⟨fr,tt,r⟩ (mem.length : Int) = on at *
     have hR : ∀ X,Below wr.heap.size wr X → Calls Try.prog 93 #[rwV Ak r,.int .i64 (mem.length : Int)] X fun e w' => e = .returned (.bool (okRw r (mem.length : Int))) ∧ Below X.heap.size X w' := fun X h => rowS_any Ak r _ X (hrs.below h)
     have hwN := oneA16 wr (.cells #[.int .i64 fr,.int .i64 tt,.int .i64 r.ver,.slice Ak.ta r.txt.length Ak.tc,.slice Ak.ga r.got.length Ak.gc,.slice Ak.sa r.sus.length Ak.sc,.bool r.wed,.bool r.rdy,.int .i64 r.by_,.slice Ak.ma r.trm.length Ak.mc] 112)
     have hxn := Bx.new wr 112 #[.int .i64 fr,.int .i64 tt,.int .i64 r.ver,.slice Ak.ta r.txt.length Ak.tc,.slice Ak.ga r.got.length Ak.gc,.slice Ak.sa r.sus.length Ak.sc,.bool r.wed,.bool r.rdy,.int .i64 r.by_,.slice Ak.ma r.trm.length Ak.mc]
     subst hla
     clear hrs hgr
     generalize okRw r (mem.length : Int) = ob at *
     obtain ⟨ver,txt,got,sus,wed,rdy,by_,trm⟩ := r
     obtain ⟨ta,tc,ga,gc,sa,sc,na,nc⟩ := Ak
     simp only [rwV,rwC] at d0 d1 d2 d3 d4 d5 d6 d7 d8 d9 hR hwN hxn
     generalize hWn : wr.alloc (.cells #[.int .i64 fr,.int .i64 tt,.int .i64 ver,.slice ta txt.length tc,.slice ga got.length gc,.slice sa sus.length sc,.bool wed,.bool rdy,.int .i64 by_,.slice na trm.length nc] 112) = Wn at *
     have hRn := hR Wn hwN
     have HGn : Hid (Below W.heap.size W Wn) := HG2.out.trans (hwN.mono HG2.out.size)
     obtain ⟨⟨e0,e1⟩,⟨e2,e3,e4,e5⟩,e6,e7,e8,e9⟩ := Bx.r10 hxn
     clear hR hwN hxn
     cases p1 : inB fr 0 ((mem.length : Int) - 1) with
     | false =>
      have HZ : Hid (okGr ⟨mem,up,mail⟩ = false) := HNo.out (by rw [HOne.out,p1];rfl)
      go_wp2_with (go_at_call 65;refine (l1In_any _ _ _ _).mono ?_;rintro e w' ⟨rfl,hw'⟩;rw [hw'];clear hw')
      go_ret
      exact ⟨ret_bool (by rw [HZ.out]),HB1.out _ HGn.out⟩
     | true =>
     cases p2 : inB tt 0 ((mem.length : Int) - 1) with
     | false =>
      have HZ : Hid (okGr ⟨mem,up,mail⟩ = false) := HNo.out (by rw [HOne.out,p2];simp)
      go_wp2_with (go_at_call 65;refine (l1In_any _ _ _ _).mono ?_;rintro e w' ⟨rfl,hw'⟩;rw [hw'];clear hw')
      go_ret
      exact ⟨ret_bool (by rw [HZ.out]),HB1.out _ HGn.out⟩
     | true =>
     by_cases p3 : fr = tt
     ·have g3 : (fr == tt) = true := by simpa using p3
      have HZ : Hid (okGr ⟨mem,up,mail⟩ = false) := HNo.out (by rw [HOne.out,decide_eq_false (fun h => h p3)];simp)
      clear p3
      go_wp2_with (go_at_call 65;refine (l1In_any _ _ _ _).mono ?_;rintro e w' ⟨rfl,hw'⟩;rw [hw'];clear hw')
      go_ret
      exact ⟨ret_bool (by rw [HZ.out]),HB1.out _ HGn.out⟩
     have g3 : (fr == tt) = false := by simpa using p3
     have HO2 : Hid (on = ob) := by rw [Hid,HOne.out,p1,p2,decide_eq_true p3];rfl
     clear p3
     cases ob with
     | false =>
      have HZ : Hid (okGr ⟨mem,up,mail⟩ = false) := HNo.out HO2.out
      go_wp2_with (first | (go_at_call 65;refine (l1In_any _ _ _ _).mono ?_;rintro e w' ⟨rfl,hw'⟩;rw [hw'];clear hw') | (go_at_call 93;refine hRn.mono ?_;rintro e w1 ⟨rfl,hb1⟩;have HG1 : Hid (Below W.heap.size W w1) := (HGn.out.trans (hb1.mono HGn.out.size));clear hb1))
      go_ret
      exact ⟨ret_bool (by rw [HZ.out]),HB1.out _ HG1.out⟩
     | true =>
      have HN : Hid (∀ j,j < q + 1 → okMl (mailN ⟨mem,up,mail⟩ j) (mem.length : Int) = true) := HY.out HO2.out
      go_wp2_with (first | (go_at_call 65;refine (l1In_any _ _ _ _).mono ?_;rintro e w' ⟨rfl,hw'⟩;rw [hw'];clear hw') | (go_at_call 93;refine hRn.mono ?_;rintro e w1 ⟨rfl,hb1⟩;have HG1 : Hid (Below W.heap.size W w1) := (HGn.out.trans (hb1.mono HGn.out.size));clear hb1))
      go_roundw
      case rel => exact ⟨q + 1,by omega,by go_num,HN.out,HG1.out⟩
      case measure => simp [intOf];omega
    ·have q1 : ¬ ((q : Int) < (mail.length : Int)) := by omega
     have HZ : Hid (okGr ⟨mem,up,mail⟩ = true) := okGr_yes (g := ⟨mem,up,mail⟩) h1 h2 HE3.out h4 HAll.out (fun j hj => HA.out j (by simp only at hj;omega))
     go_wp2
     go_ret
     exact ⟨ret_bool (by rw [HZ.out]),HB1.out _ HG2.out⟩
end Go.Proofs.Ythioodpmgifomaa
namespace Go.Proofs.Ythioodpmgifomaa
set_option linter.unusedVariables false
set_option linter.unusedSimpArgs false
open Go.RowKit Go.Sort
def mlC (x : Ml) (A : Ra) : Array Value := #[.int .i64 x.fr,.int .i64 x.to,.int .i64 x.row.ver,.slice A.ta x.row.txt.length A.tc,.slice A.ga x.row.got.length A.gc,.slice A.sa x.row.sus.length A.sc,.bool x.row.wed,.bool x.row.rdy,.int .i64 x.row.by_,.slice A.ma x.row.trm.length A.mc]
theorem ow_ml10 {w : World} {A : Ra} {x : Ml} {f : Fp} (h : owL w (rwCels x.row) (rwVals A x.row) f) : owL w (ml10 x) (mlC x A).toList f := owL_v (owL_v (ow_rw8 h))
end Go.Proofs.Ythioodpmgifomaa
namespace Go.Proofs.Ythioodpmgifomaa
set_option linter.unusedVariables false
set_option linter.unusedSimpArgs false
open Go.RowKit Go.Sort
end Go.Proofs.Ythioodpmgifomaa
namespace Go.Proofs.Ythioodpmgifomaa
set_option linter.unusedVariables false
set_option linter.unusedSimpArgs false
open Go.RowKit Go.Sort
def bo1 (b : Bool) : List Cel := [.v (.bool b)]
theorem ocl_lcl (L : List Bool) : ocl L = lcl 1 bo1 L := by
 unfold ocl lcl
 congr 1
 induction L with
 | nil => rfl
 | cons b L ih =>
  rw [List.flatMap_cons,← ih]
  rfl
def AnsGr (w w' : World) (e : Ending) (g : Gr) : Prop := ∃ A : Ga,e = .returned (grV A g) ∧ NewL w w' (gr3 g) (grVals A g)
theorem wrtG3 (w : World) (g : Nat) {a b c : Value} : Wrt (fun x => x = g) w (((w.setCell ⟨g,0,none⟩ a).setCell ⟨g,1,none⟩ b).setCell ⟨g,2,none⟩ c) :=
 ((Wrt.set w g 0 a).trans (Wrt.set _ g 1 b) (fun _ _ h => h)).trans (Wrt.set _ g 2 c) (fun _ _ h => h)
theorem Bx.f3 {w : World} {B : Nat} {T : TypeId} {cs : Array Value} (h : Bx w B T cs) : w.frozen? ⟨B,0,none⟩ = false ∧ w.frozen? ⟨B,1,none⟩ = false ∧ w.frozen? ⟨B,2,none⟩ = false := ⟨h.f 0,h.f 1,h.f 2⟩
end Go.Proofs.Ythioodpmgifomaa
namespace Go.Proofs.Ythioodpmgifomaa
set_option linter.unusedVariables false
set_option linter.unusedSimpArgs false
open Go.RowKit Go.Sort
end Go.Proofs.Ythioodpmgifomaa
namespace Go.Proofs.Ythioodpmgifomaa
set_option linter.unusedSimpArgs false
set_option linter.unusedVariables false
open Go.RowKit Go.Sort
section
variable {P : Program} {ops : Array Oper} {md : Region.Mode} {C : World → Prop}
def HeadQ (P : Program) (md : Region.Mode) (ops : Array Oper) (C : World → Prop) (n : Nat) (L : Array Bool → Act → Prop) : Nat → Array Bool → Act → Prop
 | 0,listed,a => L listed a
 | f + 1,listed,a => Region.ready md ops listed ≠ [] ∧ ∀ i ∈ Region.ready md ops listed,i < n ∧ qOp P ops C i (HeadQ P md ops C n L f (listed.setIfInBounds i true)) a
theorem any_of_headQ {n g : Nat} {L : Array Bool → Act → Prop} {Q : Exit → Act → World → Prop} (hL : ∀ listed a w,C w → L listed a → wpAny P md ops Q g listed a w) (f : Nat) :
  ∀ (listed : Array Bool) (a : Act) (w : World),C w → HeadQ P md ops C n L f listed a → wpAny P md ops Q (f + g) listed a w := by
 induction f with
 | zero => intro listed a w hw h;rw [Nat.zero_add];exact hL _ _ _ hw h
 | succ f ih =>
  intro listed a w hw h
  rw [show f + 1 + g = (f + g) + 1 by omega]
  exact ⟨fun h0 => absurd h0 h.1,fun i hi => wpOp_of_qOp hw (fun a' w' hw' h' => ih _ a' w' hw' h') (h.2 i hi).2⟩
theorem headQ_first {n i : Nat} {oi : Oper} {v : Value} {L : Array Bool → Act → Prop} (hi : ops[i]? = some oi) (hsel : ∀ (j : Nat) (o : Oper) cs b,ops[j]? = some o → o.op ≠ .select cs b)
  (hs : Region.sinkB md ops n = true) (hc : Region.chainB md ops n = true) (hn : n < ops.size) (hin : i < n) (hdone : ∀ listed a,L listed a → ∀ j ∈ Region.ready md ops listed,n ≤ j) (f : Nat) :
  ∀ (listed : Array Bool) (a : Act),HeadInv md ops n listed →
   (∀ j oj,ops[j]? = some oj → j ≠ i → listed.getD j true = false → (∀ e ∈ oj.after,Region.binds md e = true → e.on ≠ i) → oi.apart ops oj = true) →
   i ∈ Region.ready md ops listed → YieldsIn P ops C oi v a →
   HeadQ P md ops C n L f (listed.setIfInBounds i true) (a.put oi.dst v) → HeadQ P md ops C n L (f + 1) listed a := by
 induction f with
 | zero =>
  intro listed a inv _ hr hy H
  have hun := (mem_ready.1 hr).1
  refine ⟨fun h => (by rw [h] at hr;cases hr),fun j hj => ?_⟩
  have hjn : j < n := Nat.lt_of_not_le fun h => absurd hj (tail_waits hs hc hn inv _ i rfl hin hun j h)
  refine ⟨hjn, ?_⟩
  by_cases hji : j = i
  ·subst hji;exact hy.qOp hi H
  ·have := hdone _ _ H j (ready_mono hj hji)
   omega
 | succ f ih =>
  intro listed a inv hfree hr hy H
  have hun := (mem_ready.1 hr).1
  refine ⟨fun h => (by rw [h] at hr;cases hr),fun j hj => ?_⟩
  have hjn : j < n := Nat.lt_of_not_le fun h => absurd hj (tail_waits hs hc hn inv _ i rfl hin hun j h)
  refine ⟨hjn, ?_⟩
  by_cases hji : j = i
  ·subst hji;exact hy.qOp hi H
  ·have h1 := (H.2 j (ready_mono hj hji)).2
   obtain ⟨hjun,oj,hoj,hall⟩ := mem_ready.1 hj
   have hnot : ∀ e ∈ oj.after,Region.binds md e = true → e.on ≠ i := fun e he hb heq => by
    have h3 := hall e he hb
    rw [heq,getD_both hun] at h3
    cases h3
   have h2 := qOp_put hoj (hfree j oj hoj hji hjun hnot) (fun cs b => hsel i oi cs b hi) (fun cs b => hsel j oj cs b hoj) hy h1
   refine qOp_mono (fun a' h3 => ih (listed.setIfInBounds j true) a' (inv.set hj hjn) (fun k ok hk hki hu hno => hfree k ok hk hki ?_ hno) (ready_mono hr (Ne.symm hji)) h3.1 ?_) h2
   ·by_cases hjk : j = k
    ·subst hjk;exact hjun
    ·rw [getD_set_ne true hjk] at hu;exact hu
   ·rw [Array.setIfInBounds_comm _ _ hji]
    exact h3.2
theorem headQ_lex {n g : Nat} {Lq : Act → Prop} (hsel : Region.noSelect ops = true) (hs : Region.sinkB md ops n = true) (hc : Region.chainB md ops n = true) (hn : n < ops.size) :
  ∀ (l : List Oper) (k : Nat) (listed : Array Bool) (a : Act),(∀ j,j < l.length → l[j]? = ops[k + j]?) → k + l.length = n → HeadInv md ops n listed →
  Region.lexHead md ops g l.length k listed = true → wpQuiet P ops C Lq l a → HeadQ P md ops C n (fun listed' a' => Region.seqB md ops g n listed' = true ∧ Lq a') l.length listed a
 | [],k,listed,a,_,hk,_,hB,h => by
  have : k = n := by simpa using hk
  subst this
  exact ⟨by simpa [Region.lexHead] using hB,h⟩
 | o :: l,k,listed,a,hl,hk,inv,hB,h => by
  have h0 : ops[k]? = some o := by simpa using (hl 0 (by simp)).symm
  simp only [List.length_cons,Region.lexHead,Bool.and_eq_true] at hB
  obtain ⟨⟨hr,hf⟩,hB'⟩ := hB
  have hkn : k < n := by simp only [List.length_cons] at hk;omega
  have hr' : k ∈ Region.ready md ops listed := by simpa using hr
  have hst : qOp P ops C k (wpQuiet P ops C Lq l) a := by unfold qOp;simp only [h0];exact h
  obtain ⟨v,hy,hK⟩ := yieldsIn_of_qOp h0 hst
  exact headQ_first h0 (Region.noSelect_spec hsel) hs hc hn hkn (fun listed' a' hL => seqB_ready hL.1) l.length listed a inv (Region.free_spec h0 hf) hr' hy
   (headQ_lex hsel hs hc hn l (k + 1) _ _ (fun j hj => by have := hl (j + 1) (by simp;omega);simpa [Nat.add_assoc,Nat.add_comm 1 j] using this) (by simp only [List.length_cons] at hk;omega) (inv.set hr' hkn) hB' hK)
end
theorem wp_region_quiet_tail {P : Program} {C : World → Prop} {id : Nat} {Q : Exit → Act → World → Prop} {a : Act} {w : World} {l : List Oper} (n : Nat) (hm : P.follows .mixedOrders = true) (hB : Region.lexTailB .any l.toArray n = true) (hC : C (w.drewN 1))
    (h : wpQuiet P l.toArray C (fun a' => ∀ w',C w' → wpList P l.toArray Q (l.drop n) a' w') (l.take n) a) : (Code.region id l.toArray true).wp P Q a w := by
  simp only [Region.lexTailB,Bool.and_eq_true,decide_eq_true_eq] at hB
  obtain ⟨⟨⟨⟨hsel,hn⟩,hs⟩,hc⟩,hlex⟩ := hB
  have htl : (l.take n).length = n := by have : n < l.length := by simpa using hn
                                         simp;omega
  have hdl : (l.drop n).length = l.toArray.size - n := by simp
  have inv0 : HeadInv .any l.toArray n (Array.replicate l.toArray.size false) :=
    ⟨by simp,fun j oj _ hl => (by rw [getD_replicate_false] at hl;cases hl),fun t _ ht => getD_in (by simpa using ht) (getD_replicate_false _ _)⟩
  have H := headQ_lex (md := .any) (g := l.toArray.size - n) hsel hs hc hn (l.take n) 0 _ a (fun j hj => by
    have hj' : j < n := by rw [htl] at hj;exact hj
    simp [hj']) (by simpa using htl) inv0 (by rw [htl];exact hlex) h
  refine wp_region_any hm ?_
  have := any_of_headQ (C := C) (Q := Q) (g := l.toArray.size - n) (fun listed a' w' hw' hL => by
    have := wpAny_of_seq (md := .any) (Q' := Q) (l.drop n) n listed a' w' (fun j => by simp [List.getElem?_drop]) (by rw [hdl];exact hL.1) (hL.2 w' hw')
    rwa [hdl] at this) _ _ _ (w.drewN 1) hC H
  rw [htl,show n + (l.toArray.size - n) = l.toArray.size by have : n < l.toArray.size := hn;omega] at this
  exact this
end Go.Proofs.Ythioodpmgifomaa
namespace Go.Proofs.Ythioodpmgifomaa
set_option linter.unusedVariables false
set_option linter.unusedSimpArgs false
open Go.RowKit Go.Sort
attribute [local irreducible] sv
end Go.Proofs.Ythioodpmgifomaa
namespace Go.Proofs.Ythioodpmgifomaa
set_option linter.unusedVariables false
set_option linter.unusedSimpArgs false
open Go.RowKit Go.Sort
end Go.Proofs.Ythioodpmgifomaa
namespace Go.Proofs.Ythioodpmgifomaa
set_option linter.unusedVariables false
set_option linter.unusedSimpArgs false
open Go.RowKit Go.Sort
theorem Wrt.setCells (g : Nat) : ∀ (vs : List Value) (o : Nat) (w : World),Wrt (fun b => b = g) w (w.setCells g o vs)
 | [],o,w => Wrt.refl _ _
 | v :: vs,o,w => (Wrt.set w g o v).trans (Wrt.setCells g vs (o + 1) _) (fun _ _ h => h)
theorem frz_setCells (g : Nat) : ∀ (vs : List Value) (o : Nat) (w : World) (x : Addr),(w.setCells g o vs).frozen? x = w.frozen? x
 | [],o,w,x => rfl
 | v :: vs,o,w,x => by rw [World.setCells,frz_setCells g vs (o + 1),World.frozen?_setCell]
theorem Plc.all {w w1 : World} {B o : Nat} {cs cs' : List Cel} {fp f' : Fp} {vs' : List Value} (h : Plc w B o cs fp) (hb : Below w.heap.size w w1) (h' : owL w1 cs' vs' f') (hl : cs'.length = cs.length) (hf : ∀ b,f' b → w.heap.size ≤ b) : Bcm w (w1.setCells B o vs') B o cs' fp := by
 obtain ⟨vs,h1,h2,h3⟩ := h
 have e := hb.block B h1.lt
 have hP1 := h1.of_block e hb.size
 have hlen := owL_len h2
 have hlen' := owL_len h'
 have hw := Wrt.setCells B vs' o w1
 have hlt := h1.lt
 have hf'B : ¬ f' B := fun k => by have := hf B k;omega
 have hsome : ∀ j,j < vs'.length → (w1.cell? ⟨B,o + j,none⟩).isSome = true := fun j hj => by
  rw [hP1.cell j (by omega),List.getElem?_eq_getElem (by omega)]
  rfl
 refine ⟨⟨f',⟨vs',⟨fun j hj => ?_,fun j hj => ?_,Nat.lt_of_lt_of_le hP1.lt hw.size⟩,owL_wrt h' hw (fun b hb' e' => hf'B (e' ▸ hb')),hf'B⟩,fun b hb' => .inr (hf b hb')⟩,fun j hj => ?_,fun j => ?_, ?_⟩
 ·rw [World.cell?_setCells_in B vs' o w1 hsome j hj,List.getElem?_eq_getElem hj]
 ·rw [frz_setCells];exact hP1.free j (by omega)
 ·rw [World.cell?_setCells_out B vs' o w1 _ (fun _ _ => by simp only;omega)]
  exact World.cell?_of_block e
 ·rw [frz_setCells];simp only [World.frozen?,e]
 ·exact (Wrt.of_below (f := fun b => fp b ∨ b = B) hb).trans hw (fun b _ k => .inr k)
end Go.Proofs.Ythioodpmgifomaa
namespace Go.Proofs.Ythioodpmgifomaa
set_option linter.unusedVariables false
set_option linter.unusedSimpArgs false
open Go.RowKit Go.Sort
end Go.Proofs.Ythioodpmgifomaa
namespace Go.Proofs.Ythioodpmgifomaa
set_option linter.unusedVariables false
set_option linter.unusedSimpArgs false
open Go.RowKit Go.Sort
end Go.Proofs.Ythioodpmgifomaa
namespace Go.Proofs.Ythioodpmgifomaa
set_option linter.unusedVariables false
set_option linter.unusedSimpArgs false
open Go.RowKit Go.Sort
end Go.Proofs.Ythioodpmgifomaa
namespace Go.Proofs.Ythioodpmgifomaa
set_option linter.unusedVariables false
set_option linter.unusedSimpArgs false
open Go.RowKit Go.Sort
end Go.Proofs.Ythioodpmgifomaa
namespace Go.Proofs.Ythioodpmgifomaa
set_option linter.unusedVariables false
set_option linter.unusedSimpArgs false
open Go.RowKit Go.Sort
end Go.Proofs.Ythioodpmgifomaa
namespace Go.Proofs.Ythioodpmgifomaa
set_option linter.unusedVariables false
set_option linter.unusedSimpArgs false
open Go.RowKit Go.Sort
end Go.Proofs.Ythioodpmgifomaa
namespace Go.Proofs.Ythioodpmgifomaa
set_option linter.unusedVariables false
set_option linter.unusedSimpArgs false
open Go.RowKit Go.Sort
end Go.Proofs.Ythioodpmgifomaa
namespace Go.Proofs.Ythioodpmgifomaa
set_option linter.unusedSimpArgs false
set_option linter.unusedVariables false
open Go.RowKit
end Go.Proofs.Ythioodpmgifomaa
namespace Go.Proofs.Ythioodpmgifomaa
set_option linter.unusedVariables false
set_option linter.unusedSimpArgs false
open Go.RowKit Go.Sort
end Go.Proofs.Ythioodpmgifomaa
namespace Go.Proofs.Ythioodpmgifomaa
set_option linter.unusedVariables false
set_option linter.unusedSimpArgs false
open Go.RowKit Go.Sort
end Go.Proofs.Ythioodpmgifomaa
namespace Go.Proofs.Ythioodpmgifomaa
set_option linter.unusedVariables false
set_option linter.unusedSimpArgs false
open Go.RowKit Go.Sort
end Go.Proofs.Ythioodpmgifomaa
namespace Go.Proofs.Ythioodpmgifomaa
set_option linter.unusedVariables false
set_option linter.unusedSimpArgs false
open Go.RowKit Go.Sort
end Go.Proofs.Ythioodpmgifomaa
namespace Go.Proofs.Ythioodpmgifomaa
set_option linter.unusedVariables false
set_option linter.unusedSimpArgs false
open Go.RowKit Go.Sort
end Go.Proofs.Ythioodpmgifomaa
namespace Go.Proofs.Ythioodpmgifomaa
set_option linter.unusedVariables false
set_option linter.unusedSimpArgs false
open Go.RowKit Go.Sort
end Go.Proofs.Ythioodpmgifomaa
namespace Go.Proofs.Ythioodpmgifomaa
set_option linter.unusedVariables false
set_option linter.unusedSimpArgs false
open Go.RowKit Go.Sort
section
variable {w X Y Y' : World} {p : Nat} {a : Option Addr} {len cap : Nat} {bs : Nat → Int} {T : TypeId} {o : Nat} {Z C : Array Value} {cs : List Cel} {vs : List Value} {fp : Fp}
end
end Go.Proofs.Ythioodpmgifomaa
namespace Go.Proofs.Ythioodpmgifomaa
set_option linter.unusedVariables false
set_option linter.unusedSimpArgs false
open Go.RowKit Go.Sort
end Go.Proofs.Ythioodpmgifomaa
namespace Go.Proofs.Ythioodpmgifomaa
set_option linter.unusedVariables false
set_option linter.unusedSimpArgs false
open Go.RowKit Go.Sort
section
variable {w X Y Y' : World} {p : Nat} {a : Option Addr} {len cap : Nat} {bs : Nat → Int} {o : Nat} {Zr : Array Value} {A : Ra} {r : Rw} {fp : Fp}
end
end Go.Proofs.Ythioodpmgifomaa
namespace Go.Proofs.Ythioodpmgifomaa
set_option linter.unusedSimpArgs false
set_option linter.unusedVariables false
open Go.RowKit Go.Sort
attribute [local irreducible] sv
end Go.Proofs.Ythioodpmgifomaa
namespace Go.Proofs.Ythioodpmgifomaa
set_option linter.unusedVariables false
set_option linter.unusedSimpArgs false
open Go.RowKit Go.Sort
attribute [local irreducible] sv
end Go.Proofs.Ythioodpmgifomaa
namespace Go.Proofs.Ythioodpmgifomaa
set_option linter.unusedVariables false
set_option linter.unusedSimpArgs false
open Go.RowKit Go.Sort
theorem owL_it {w : World} {cs : List Cel} {vs : List Value} {fp : Fp} (h : owL w cs vs fp) {lo : Nat} (hl : ∀ b,fp b → lo ≤ b) : It w cs vs lo w.heap.size := ⟨fp,h,fun b hb => ⟨hl b hb,owL_lt h b hb⟩⟩
end Go.Proofs.Ythioodpmgifomaa
namespace Go.Proofs.Ythioodpmgifomaa
set_option linter.unusedVariables false
set_option linter.unusedSimpArgs false
open Go.RowKit Go.Sort
end Go.Proofs.Ythioodpmgifomaa
namespace Go.Proofs.Ythioodpmgifomaa
set_option linter.unusedVariables false
set_option linter.unusedSimpArgs false
open Go.RowKit Go.Sort
end Go.Proofs.Ythioodpmgifomaa
namespace Go.Proofs.Ythioodpmgifomaa
set_option linter.unusedVariables false
set_option linter.unusedSimpArgs false
open Go.RowKit Go.Sort
end Go.Proofs.Ythioodpmgifomaa
namespace Go.Proofs.Ythioodpmgifomaa
set_option linter.unusedVariables false
set_option linter.unusedSimpArgs false
open Go.RowKit Go.Sort
attribute [local irreducible] sv
end Go.Proofs.Ythioodpmgifomaa
namespace Go.Proofs.Ythioodpmgifomaa
set_option linter.unusedVariables false
set_option linter.unusedSimpArgs false
open Go.RowKit Go.Sort
end Go.Proofs.Ythioodpmgifomaa
namespace Go.Proofs.Ythioodpmgifomaa
set_option linter.unusedVariables false
set_option linter.unusedSimpArgs false
open Go.RowKit Go.Sort
attribute [local irreducible] sv
end Go.Proofs.Ythioodpmgifomaa
namespace Go.Proofs.Ythioodpmgifomaa
set_option linter.unusedVariables false
set_option linter.unusedSimpArgs false
open Go.RowKit Go.Sort
attribute [local irreducible] sv
end Go.Proofs.Ythioodpmgifomaa
namespace Go.Proofs.Ythioodpmgifomaa
set_option linter.unusedVariables false
set_option linter.unusedSimpArgs false
open Go.RowKit Go.Sort
attribute [local irreducible] sv
end Go.Proofs.Ythioodpmgifomaa