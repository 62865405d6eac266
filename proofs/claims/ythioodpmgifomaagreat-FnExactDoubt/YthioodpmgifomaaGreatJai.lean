/-
  Texts in one: Nmc Nmi Nmj.
-/
import Derived.Test.YthioodpmgifomaaGreatJag
import Derived.Test.YthioodpmgifomaaGreatJaf
import Derived.Test.YthioodpmgifomaaGreatJah
namespace Go.Proofs.YthioodpmgifomaaGreat
set_option linter.unusedVariables false
set_option linter.unusedSimpArgs false
open Go.RowKit Go.Sort
theorem okMb_chk (m : Mb) : okMb m = ((inB m.n 1 5 && (inB m.id 0 (m.n - 1) && decide ((m.rows.length : Int) = m.n))) && (m.rows.all (fun r => okRw r m.n) && ((decide (el m.own.got m.i = (m.own.txt.length : Int)) && decide (m.id ∉ m.own.sus)) && (susB m.sung 60 && (if m.done = true then m.own.rdy else (List.range m.sung.length).all (fun i => decide (el m.sung i = (i : Int)))))))) := by
 have hel : (∀ i,i < m.sung.length → inB (el m.sung i) 0 59 = true) ↔ ∀ x ∈ m.sung,inB x 0 59 = true := by
  constructor
  ·intro h x hx
   obtain ⟨j,hj,rfl⟩ := List.mem_iff_getElem.1 hx
   have := h j hj
   simpa [el,hj] using this
  ·intro h i hi
   exact h _ (el_mem hi)
 rw [Bool.eq_iff_iff]
 unfold okMb okSg susB
 simp only [Bool.and_eq_true,List.all_eq_true,decide_eq_true_eq,List.mem_range,Bool.or_eq_true,Bool.not_eq_true']
 rw [show (60 : Int) - 1 = 59 from rfl]
 constructor
 ·rintro ⟨h1,h2,h3,h4,h5,h6,h7,h8,h9,h10⟩
  refine ⟨⟨h1,h2,h3⟩,h6,⟨h8,h9⟩,⟨hel.1 (fun i hi => (h7 i hi).1),h5⟩, ?_⟩
  split
  ·rename_i hd
   rcases h10 with h | h
   ·rw [hd] at h;cases h
   ·exact h
  ·rename_i hd
   simp only [List.all_eq_true,List.mem_range,decide_eq_true_eq]
   exact fun i hi => ((h7 i hi).2).resolve_left hd
 ·rintro ⟨⟨h1,h2,h3⟩,h6,⟨h8,h9⟩,⟨h7,h5⟩,h10⟩
  refine ⟨h1,h2,h3, ?_,h5,h6,fun i hi => ⟨hel.2 h7 i hi, ?_⟩,h8,h9, ?_⟩
  ·refine ris_short (k := 60) (ris_iff.1 h5) (fun x hx => ?_)
   have := inB7.1 (h7 x hx)
   omega
  ·by_cases hd : m.done = true
   ·exact .inl hd
   ·rw [if_neg hd] at h10
    simp only [List.all_eq_true,List.mem_range,decide_eq_true_eq] at h10
    exact .inr (h10 i hi)
  ·by_cases hd : m.done = true
   ·rw [if_pos hd] at h10;exact .inr h10
   ·exact .inl (by simpa using hd)
theorem MbP.below {w w' : World} {A : Ma} {m : Mb} (h : MbP w A m) (hb : Below w.heap.size w w') : MbP w' A m := by
 obtain ⟨f,hf⟩ := h.own
 exact ⟨⟨f,owL_below hf hb⟩,h.fit,h.i64,h.sz⟩
theorem sum_mem_le {F : Rw → Nat} {r : Rw} : ∀ {R : List Rw},r ∈ R → F r ≤ (R.map F).sum
 | x :: R,h => by
  rw [List.map_cons,List.sum_cons]
  rcases List.mem_cons.1 h with h | h
  ·rw [h];omega
  ·have := sum_mem_le (F := F) h;omega
theorem szRw_mem {m : Mb} {r : Rw} (h : r ∈ m.rows) : szRw r ≤ szMb m := by
 have := sum_mem_le (F := szRw) h
 unfold szMb szRs szP
 rw [List.take_length]
 omega
theorem MbP.row {w : World} {A : Ma} {m : Mb} (h : MbP w A m) {k : Nat} (hk : k < m.rows.length) : ∃ g off Ak,A.ra = some ⟨g,off,none⟩ ∧ C8 w g (off + k * 8) (.int .i64 (rowN m.rows k).ver) (.slice Ak.ta (rowN m.rows k).txt.length Ak.tc) (.slice Ak.ga (rowN m.rows k).got.length Ak.gc) (.slice Ak.sa (rowN m.rows k).sus.length Ak.sc) (.bool (rowN m.rows k).wed) (.bool (rowN m.rows k).rdy) (.int .i64 (rowN m.rows k).by_) (.slice Ak.ma (rowN m.rows k).trm.length Ak.mc) ∧ RwP w Ak (rowN m.rows k) := by
 obtain ⟨f,hf⟩ := h.own
 obtain ⟨f1,f2,o1,o2,_,_⟩ := owL_two hf
 obtain ⟨g,off,f3,hra,_,_,⟨vs,hpc,hov,_⟩,_⟩ := ow_elF rw8_len (by omega) o1 (rowN_at hk)
 obtain ⟨Ak,rfl,hl⟩ := rw8_ow hov
 have hl8 : (rwC Ak (rowN m.rows k)).toList.length = 8 := rfl
 have c := hpc.cell
 have hfit : FitR (rowN m.rows k) := h.fit.1 _ (rowN_mem hk)
 have hs := szRw_mem (rowN_mem hk)
 exact ⟨g,off,Ak,hra,⟨⟨c 0 (by rw [hl8];omega),c 1 (by rw [hl8];omega),c 2 (by rw [hl8];omega),c 3 (by rw [hl8];omega)⟩,c 4 (by rw [hl8];omega),c 5 (by rw [hl8];omega),c 6 (by rw [hl8];omega),c 7 (by rw [hl8];omega)⟩,it_rwp (owL_it hl (lo := 0) (fun b _ => Nat.zero_le b)) hfit (h.i64.2.2 _ (rowN_mem hk)) (Nat.le_trans hs h.sz)⟩
theorem MbP.mbs {w : World} {A : Ma} {m : Mb} (h : MbP w A m) : MbS w A m := by
 obtain ⟨f,hf⟩ := h.own
 exact mbs_of (owL_vw hf) h.fit
def fromN (s : List Int) : Bool := (List.range s.length).all (fun i => decide (el s i = (i : Int)))
set_option maxRecDepth 100000 in
set_option maxHeartbeats 800000 in
theorem cfn_any (a : Option Addr) (cap : Nat) (xs : List Int) (w : World) (hv : Vec w a xs.length xs) (hm : xs.length ≤ maxLen) :
  Calls Tryz.prog 132 #[.slice a xs.length cap] w fun e w' => e = .returned (.bool (fromN xs)) ∧ w' = w := by
 obtain ⟨_,_,hc⟩ := hv
 unfold maxLen at hm
 have HT : Hid ((∀ j,j < xs.length → el xs j = (j : Int)) → fromN xs = true) := fun h => by
  simp only [Hid,fromN,List.all_eq_true,List.mem_range,decide_eq_true_eq]
  exact h
 have HF : Hid (∀ k,k < xs.length → el xs k ≠ (k : Int) → fromN xs = false) := fun k hk h => by
  rw [Bool.eq_false_iff]
  intro hq
  simp only [fromN,List.all_eq_true,List.mem_range,decide_eq_true_eq] at hq
  exact h (hq k hk)
 generalize fromN xs = Q at *
 go_enter Tryz.func132,Tryz.ntmps132
 go_wp2
 go_loopw [7] (fun i wr => ∃ k : Nat,k ≤ xs.length ∧ i = .int .i64 k ∧ (∀ j,j < k → el xs j = (j : Int)) ∧ wr = w) (fun i _ => xs.length - (intOf i).toNat)
 case atStart => exact ⟨0,Nat.zero_le _,rfl,fun j hj => by omega,rfl⟩
 case round =>
  obtain ⟨k,hk,rfl,hall,rfl⟩ := hrel
  have HA : Hid (∀ j,j < k → el xs j = (j : Int)) := hall
  clear hall
  by_cases hlt : k < xs.length
  ·rcases hc with h0 | ⟨b,off,rfl,hc⟩
   ·omega
   have hck := hc k hlt
   have k1 : (k : Int) < (xs.length : Int) := by omega
   have k0 : (0 : Int) ≤ (k : Int) := by omega
   by_cases he : el xs k = (k : Int)
   ·have HK : Hid (∀ j,j < k + 1 → el xs j = (j : Int)) := fun j hj => by
     by_cases e : j = k
     ·subst e;exact he
     ·exact HA.out j (by omega)
    have e1 : ((el xs k) != (k : Int)) = false := by simp [he]
    clear he hc
    generalize el xs k = x at *
    go_wp2
    go_roundw
    case rel => exact ⟨k + 1,by omega,by go_num,HK.out,by first | rfl | trivial⟩
    case measure => simp [intOf];omega
   ·have HK : Hid (Q = false) := HF.out k hlt he
    have e1 : ((el xs k) != (k : Int)) = true := by simp [he]
    clear he hc
    generalize el xs k = x at *
    go_wp2
    go_ret
    exact ⟨ret_bool (by rw [HK.out]),by first | rfl | trivial⟩
  ·have k1 : ¬ ((k : Int) < (xs.length : Int)) := by omega
   obtain rfl : k = xs.length := by omega
   have HK : Hid (Q = true) := HT.out HA.out
   clear hc
   go_wp2
   go_ret
   exact ⟨ret_bool (by rw [HK.out]),by first | rfl | trivial⟩
theorem okMb_1 {m : Mb} (h : (inB m.n 1 5 && (inB m.id 0 (m.n - 1) && decide ((m.rows.length : Int) = m.n))) = false) : okMb m = false := by rw [okMb_chk,h];rfl
theorem okMb_2 {m : Mb} {k : Nat} (hk : k < m.rows.length) (h : okRw (rowN m.rows k) m.n = false) : okMb m = false := by
 have : m.rows.all (fun r => okRw r m.n) = false := by
  rw [Bool.eq_false_iff]
  intro hq
  rw [List.all_eq_true.1 hq _ (rowN_mem hk)] at h
  cases h
 rw [okMb_chk,this]
 simp
theorem okMb_3 {m : Mb} (h : (decide (el m.own.got m.i = (m.own.txt.length : Int)) && decide (m.id ∉ m.own.sus)) = false) : okMb m = false := by rw [okMb_chk,h];simp
theorem okMb_4 {m : Mb} (h : susB m.sung 60 = false) : okMb m = false := by rw [okMb_chk,h];simp
theorem okMb_5 {m : Mb} (h1 : (inB m.n 1 5 && (inB m.id 0 (m.n - 1) && decide ((m.rows.length : Int) = m.n))) = true) (h2 : ∀ k,k < m.rows.length → okRw (rowN m.rows k) m.n = true) (h3 : (decide (el m.own.got m.i = (m.own.txt.length : Int)) && decide (m.id ∉ m.own.sus)) = true) (h4 : susB m.sung 60 = true) : okMb m = (if m.done = true then m.own.rdy else fromN m.sung) := by
 have : m.rows.all (fun r => okRw r m.n) = true := by
  rw [List.all_eq_true]
  intro r hr
  obtain ⟨k,hk,rfl⟩ := List.mem_iff_getElem.1 hr
  have := h2 k hk
  simpa [rowN,List.getD,hk] using this
 rw [okMb_chk,h1,this,h3,h4]
 rfl
set_option maxRecDepth 100000 in
set_option maxHeartbeats 1600000 in
theorem chk_any (A : Ma) (m : Mb) (w : World) (hv : MbP w A m) :
  Calls Tryz.prog 72 #[mbV A m] w fun e w' => ((okMb m = true ∧ e = .returned (.tuple #[])) ∨ (okMb m = false ∧ Gu e)) ∧ Below w.heap.size w w' := by
 have hmix := mixed17
 have hb0 := oneA16 w (.cells (mbC A m) 27)
 have hx0 := Bx.new w 27 (mbC A m)
 have h0 := hv.below hb0
 unfold mbV mbC at *
 generalize hWW : w.alloc (.cells #[.int .i64 m.id,.int .i64 m.n,.slice A.ra m.rows.length A.rc,.slice A.sa m.sung.length A.sc,.bool m.done] 27) = W at *
 have HB0 : Hid (Below w.heap.size w W) := hb0
 have HP : Hid (MbP W A m) := h0
 have HX : Hid (Bx W w.heap.size 27 #[.int .i64 m.id,.int .i64 m.n,.slice A.ra m.rows.length A.rc,.slice A.sa m.sung.length A.sc,.bool m.done]) := hx0
 obtain ⟨c0,c1,c2,c3,c4⟩ := Bx.r5 hx0
 have hsl := h0.mbs.ms
 have hrl := h0.mbs.mr
 unfold maxLen at hsl hrl
 clear hb0 h0 hx0 hv
 cases e1 : inB m.n 1 5 with
 | false =>
  have HZ : Hid (okMb m = false) := okMb_1 (by rw [e1];rfl)
  go_enter Tryz.func72,Tryz.ntmps72
  go_wp2_with (first | (go_at_call 99;refine (isRl_any _ _).mono ?_;rintro e w' ⟨rfl,hw'⟩;rw [hw',e1];clear hw') | (go_at_call 115;refine (wantF _).mono ?_;rintro e w' ⟨⟨T,v,rfl⟩,hw'⟩;rw [hw'];clear hw'))
  exact ⟨rfl,.inr ⟨HZ.out,_,_,rfl⟩,HB0.out⟩
 | true =>
 have hn5 := inB7.1 e1
 have hwn : wrap64 (m.n - 1) = m.n - 1 := by unfold wrap64;omega
 cases e2 : inB m.id 0 (m.n - 1) with
 | false =>
  have HZ : Hid (okMb m = false) := okMb_1 (by rw [e1,e2];rfl)
  go_enter Tryz.func72,Tryz.ntmps72
  go_wp2_with (first | (go_at_call 99;refine (isRl_any _ _).mono ?_;rintro e w' ⟨rfl,hw'⟩;rw [hw',e1];clear hw') | (go_at_call 129;refine (isW14_any _ _ _).mono ?_;rintro e w' ⟨rfl,hw'⟩;rw [hw',e2];clear hw') | (go_at_call 115;refine (wantF _).mono ?_;rintro e w' ⟨⟨T,v,rfl⟩,hw'⟩;rw [hw'];clear hw'))
  exact ⟨rfl,.inr ⟨HZ.out,_,_,rfl⟩,HB0.out⟩
 | true =>
 have hid := inB7.1 e2
 by_cases e3 : (m.rows.length : Int) = m.n
 case neg =>
  have HZ : Hid (okMb m = false) := okMb_1 (by rw [e1,e2,decide_eq_false e3];rfl)
  have e3' : ((m.rows.length : Int) == m.n) = false := by simpa using e3
  go_enter Tryz.func72,Tryz.ntmps72
  go_wp2_with (first | (go_at_call 99;refine (isRl_any _ _).mono ?_;rintro e w' ⟨rfl,hw'⟩;rw [hw',e1];clear hw') | (go_at_call 129;refine (isW14_any _ _ _).mono ?_;rintro e w' ⟨rfl,hw'⟩;rw [hw',e2];clear hw') | (go_at_call 115;refine (wantF _).mono ?_;rintro e w' ⟨⟨T,v,rfl⟩,hw'⟩;rw [hw'];clear hw'))
  exact ⟨rfl,.inr ⟨HZ.out,_,_,rfl⟩,HB0.out⟩
 have H1 : Hid ((inB m.n 1 5 && (inB m.id 0 (m.n - 1) && decide ((m.rows.length : Int) = m.n))) = true) := by rw [Hid,e1,e2,decide_eq_true e3];rfl
 have e3' : ((m.rows.length : Int) == m.n) = true := by simpa using e3
 have hRl : ∀ X,Calls Tryz.prog 99 #[.int .i64 m.n] X fun e w' => e = .returned (.bool true) ∧ w' = X := fun X => by
  have := isRl_any m.n X
  rw [e1] at this
  exact this
 have hWi : ∀ X,Calls Tryz.prog 129 #[.int .i64 m.id,.int .i64 (m.n - 1)] X fun e w' => e = .returned (.bool true) ∧ w' = X := fun X => by
  have := isW14_any m.id (m.n - 1) X
  rw [e2] at this
  exact this
 have HI : Hid (∃ i : Nat,m.id = (i : Int) ∧ i < m.rows.length ∧ m.i = i) := ⟨m.id.toNat,by omega,by omega,rfl⟩
 have HN : Hid (∃ n : Nat,m.n = (n : Int) ∧ m.rows.length = n ∧ 1 ≤ n ∧ n ≤ 5) := ⟨m.n.toNat,by omega,by omega,by omega,by omega⟩
 clear e1 e2 e3 hid
 go_enter Tryz.func72,Tryz.ntmps72
 go_wp2_with (first | (go_at_call 99;refine (hRl _).mono ?_;rintro e w' ⟨rfl,hw'⟩;rw [hw'];clear hw') | (go_at_call 129;refine (hWi _).mono ?_;rintro e w' ⟨rfl,hw'⟩;rw [hw'];clear hw') | (go_at_call 115;refine (wantT _).mono ?_;rintro e w' ⟨rfl,hw'⟩;rw [hw'];clear hw'))
 clear hRl hWi c0 c1 c2 c3 c4
 go_loopw [28] (fun v wr => ∃ k : Nat,k ≤ m.rows.length ∧ v = .int .i64 (k : Int) ∧ (∀ j,j < k → okRw (rowN m.rows j) m.n = true) ∧ Below W.heap.size W wr) (fun v _ => m.rows.length - (intOf v).toNat)
 case atStart => exact ⟨0,Nat.zero_le _,rfl,fun j hj => by omega,Below.refl _ _⟩
 case round =>
  obtain ⟨k,hk,rfl,hall,hbr⟩ := hrel
  have HA : Hid (∀ j,j < k → okRw (rowN m.rows j) m.n = true) := hall
  have HBr : Hid (Below W.heap.size W wr) := hbr
  obtain ⟨c0,c1,c2,c3,c4⟩ := Bx.r5 (HX.out.below hbr)
  by_cases hlt : k < m.rows.length
  ·obtain ⟨g,off,Ak,hra,⟨⟨d0,d1,d2,d3⟩,d4,d5,d6,d7⟩,hrp⟩ := (HP.out.below hbr).row hlt
   have HZ : Hid (okRw (rowN m.rows k) m.n = false → okMb m = false) := fun h => okMb_2 hlt h
   rw [hra] at *
   have k0 : (0 : Int) ≤ (k : Int) := by omega
   have k1 : (k : Int) < (m.rows.length : Int) := by omega
   have HK : Hid (okRw (rowN m.rows k) m.n = true → ∀ j,j < k + 1 → okRw (rowN m.rows j) m.n = true) := fun h j hj => by
    by_cases e : j = k
    ·subst e;exact h
    ·exact HA.out j (by omega)
   generalize rowN m.rows k = r at *
   have hbl := oneA16 wr (.cells #[.int .i64 r.ver,.slice Ak.ta r.txt.length Ak.tc,.slice Ak.ga r.got.length Ak.gc,.slice Ak.sa r.sus.length Ak.sc,.bool r.wed,.bool r.rdy,.int .i64 r.by_,.slice Ak.ma r.trm.length Ak.mc] 37)
   have hxr := Bx.new wr 37 #[.int .i64 r.ver,.slice Ak.ta r.txt.length Ak.tc,.slice Ak.ga r.got.length Ak.gc,.slice Ak.sa r.sus.length Ak.sc,.bool r.wed,.bool r.rdy,.int .i64 r.by_,.slice Ak.ma r.trm.length Ak.mc]
   have hRo := rowI_any Ak r m.n _ (hrp.below hbl)
   unfold rwV rwC at hRo
   have HBw : Hid (Below W.heap.size W (wr.alloc (.cells #[.int .i64 r.ver,.slice Ak.ta r.txt.length Ak.tc,.slice Ak.ga r.got.length Ak.gc,.slice Ak.sa r.sus.length Ak.sc,.bool r.wed,.bool r.rdy,.int .i64 r.by_,.slice Ak.ma r.trm.length Ak.mc] 37))) := HBr.out.trans (hbl.mono HBr.out.size)
   have c1' := (hbl.cell (World.block_lt_of_cell? _ _ c1)).trans c1
   obtain ⟨⟨x0,x1,x2,x3⟩,x4,x5,x6,x7⟩ := Bx.r8 hxr
   clear hrp hall hbl hxr
   go_upto_region 5 with fail
   generalize wr.alloc (.cells #[.int .i64 r.ver,.slice Ak.ta r.txt.length Ak.tc,.slice Ak.ga r.got.length Ak.gc,.slice Ak.sa r.sus.length Ak.sc,.bool r.wed,.bool r.rdy,.int .i64 r.by_,.slice Ak.ma r.trm.length Ak.mc] 37) = W5 at *
   clear c0 c1 c2 c3 c4 d0 d1 d2 d3 d4 d5 d6 d7
   cases hb : okRw r m.n with
   | false =>
    have HZ1 : Hid (okMb m = false) := HZ.out hb
    rw [hb] at hRo
    go_wp2_with (first | (go_at_call 87;refine hRo.mono ?_;rintro e w1 ⟨rfl,hb1⟩;have HB1 : Hid (Below w.heap.size w w1) := (HB0.out.trans (HBw.out.mono HB0.out.size)).trans (hb1.mono (HB0.out.trans (HBw.out.mono HB0.out.size)).size);clear hb1) | (go_at_call 115;refine (wantF _).mono ?_;rintro e w' ⟨⟨T,v,rfl⟩,hw'⟩;rw [hw'];clear hw'))
    exact ⟨rfl,.inr ⟨HZ1.out,_,_,rfl⟩,HB1.out⟩
   | true =>
    have HK1 := HK.out hb
    have HK2 : Hid (∀ j,j < k + 1 → okRw (rowN m.rows j) m.n = true) := HK1
    rw [hb] at hRo
    clear HK HK1
    go_wp2_with (first | (go_at_call 87;refine hRo.mono ?_;rintro e w1 ⟨rfl,hb1⟩;have HB1 : Hid (Below W.heap.size W w1) := HBw.out.trans (hb1.mono HBw.out.size);clear hb1) | (go_at_call 115;refine (wantT _).mono ?_;rintro e w' ⟨rfl,hw'⟩;rw [hw'];clear hw'))
    go_roundw
    case rel => exact ⟨k + 1,by omega,by go_num,HK2.out,HB1.out⟩
    case measure => simp [intOf];omega
  ·have k1 : ¬ ((k : Int) < (m.rows.length : Int)) := by omega
   obtain rfl : k = m.rows.length := by omega
   have H2 : Hid (∀ j,j < m.rows.length → okRw (rowN m.rows j) m.n = true) := HA.out
   obtain ⟨i,hi,hil,hmi⟩ := HI.out
   obtain ⟨n,hn,hln,hn1,hn5'⟩ := HN.out
   obtain ⟨g,off,Ak,hra,⟨⟨d0,d1,d2,d3⟩,d4,d5,d6,d7⟩,hrp⟩ := (HP.out.below hbr).row hil
   have hgl : i < (rowN m.rows i).got.length := by
    have := okRw_iff.1 (by rw [← hn];exact HA.out i hil : okRw (rowN m.rows i) (n : Int) = true)
    rw [this.gl];omega
   have HOwn : Hid (m.own = rowN m.rows i) := by rw [Hid,Mb.own,hmi]
   have i0 : (0 : Int) ≤ (i : Int) := by omega
   have i1 : (i : Int) < (m.rows.length : Int) := by omega
   have i2 : (i : Int) < ((rowN m.rows i).got.length : Int) := by omega
   have hsu : ∀ X,Below W.heap.size W X → Calls Tryz.prog 131 #[.slice A.sa m.sung.length A.sc,.int .i64 59] X fun e w' => e = .returned (.bool (susB m.sung 60)) ∧ w' = X := fun X hX => by
    have := rw14_any A.sa m.sung.length A.sc 60 m.sung X (HP.out.mbs.sung.below hX (Nat.le_refl _)) HP.out.mbs.ms
    rw [sus_row] at this
    exact this
   have hcf : ∀ X,Below W.heap.size W X → Calls Tryz.prog 132 #[.slice A.sa m.sung.length A.sc] X fun e w' => e = .returned (.bool (fromN m.sung)) ∧ w' = X := fun X hX => cfn_any A.sa A.sc m.sung X (HP.out.mbs.sung.below hX (Nat.le_refl _)) HP.out.mbs.ms
   have H3 : Hid ((decide (el (rowN m.rows i).got i = ((rowN m.rows i).txt.length : Int)) && decide ((i : Int) ∉ (rowN m.rows i).sus)) = false → okMb m = false) := fun h => okMb_3 (by rw [HOwn.out,hmi,hi];exact h)
   have H4 : Hid (susB m.sung 60 = false → okMb m = false) := okMb_4
   have H5 : Hid ((decide (el (rowN m.rows i).got i = ((rowN m.rows i).txt.length : Int)) && decide ((i : Int) ∉ (rowN m.rows i).sus)) = true → susB m.sung 60 = true → okMb m = (if m.done = true then (rowN m.rows i).rdy else fromN m.sung)) := fun h1 h2 => by
    have := okMb_5 H1.out H2.out (by rw [HOwn.out,hmi,hi];exact h1) h2
    rw [HOwn.out] at this
    exact this
   have hgc : ∀ X,Below wr.heap.size wr X → ∃ gb go,Ak.ga = some ⟨gb,go,none⟩ ∧ X.cell? ⟨gb,go + i,none⟩ = some (.int .i64 (el (rowN m.rows i).got i)) := fun X hX => by
    rcases (hrp.below hX).got.vec.2.2 with h | ⟨gb,go,e,h⟩
    ·omega
    ·exact ⟨gb,go,e,h i hgl⟩
   have hCon : ∀ X,Below wr.heap.size wr X → Calls Tryz.prog 130 #[.slice Ak.sa (rowN m.rows i).sus.length Ak.sc,.int .i64 (i : Int)] X fun e w' => e = .returned (.bool (decide ((i : Int) ∈ (rowN m.rows i).sus))) ∧ w' = X := fun X hX => con14_any Ak.sa Ak.sc (rowN m.rows i).sus (i : Int) X (hrp.below hX).sus.vec (hrp.below hX).rws.ms
   rw [hi] at c0
   rw [hra] at c2
   generalize hOK : okMb m = OK at *
   have HOk : Hid (okMb m = OK) := hOK
   clear hOK
   generalize rowN m.rows i = r at *
   generalize hge : el r.got i = gi at *
   generalize susB m.sung 60 = sb at *
   generalize fromN m.sung = fb at *
   have hbl := oneA16 wr (.cells #[.int .i64 r.ver,.slice Ak.ta r.txt.length Ak.tc,.slice Ak.ga r.got.length Ak.gc,.slice Ak.sa r.sus.length Ak.sc,.bool r.wed,.bool r.rdy,.int .i64 r.by_,.slice Ak.ma r.trm.length Ak.mc] 37)
   have hxr := Bx.new wr 37 #[.int .i64 r.ver,.slice Ak.ta r.txt.length Ak.tc,.slice Ak.ga r.got.length Ak.gc,.slice Ak.sa r.sus.length Ak.sc,.bool r.wed,.bool r.rdy,.int .i64 r.by_,.slice Ak.ma r.trm.length Ak.mc]
   have HXr : Hid (Bx (wr.alloc (.cells #[.int .i64 r.ver,.slice Ak.ta r.txt.length Ak.tc,.slice Ak.ga r.got.length Ak.gc,.slice Ak.sa r.sus.length Ak.sc,.bool r.wed,.bool r.rdy,.int .i64 r.by_,.slice Ak.ma r.trm.length Ak.mc] 37)) wr.heap.size 37 #[.int .i64 r.ver,.slice Ak.ta r.txt.length Ak.tc,.slice Ak.ga r.got.length Ak.gc,.slice Ak.sa r.sus.length Ak.sc,.bool r.wed,.bool r.rdy,.int .i64 r.by_,.slice Ak.ma r.trm.length Ak.mc]) := hxr
   have HBw : Hid (Below W.heap.size W (wr.alloc (.cells #[.int .i64 r.ver,.slice Ak.ta r.txt.length Ak.tc,.slice Ak.ga r.got.length Ak.gc,.slice Ak.sa r.sus.length Ak.sc,.bool r.wed,.bool r.rdy,.int .i64 r.by_,.slice Ak.ma r.trm.length Ak.mc] 37))) := HBr.out.trans (hbl.mono HBr.out.size)
   have HBl : Hid (Below wr.heap.size wr (wr.alloc (.cells #[.int .i64 r.ver,.slice Ak.ta r.txt.length Ak.tc,.slice Ak.ga r.got.length Ak.gc,.slice Ak.sa r.sus.length Ak.sc,.bool r.wed,.bool r.rdy,.int .i64 r.by_,.slice Ak.ma r.trm.length Ak.mc] 37))) := hbl
   have HMX : Hid (∀ X,Below W.heap.size W X → Bx X w.heap.size 27 #[.int .i64 m.id,.int .i64 m.n,.slice A.ra m.rows.length A.rc,.slice A.sa m.sung.length A.sc,.bool m.done]) := fun X h => HX.out.below h
   clear hrp hall hbl hxr HP HA hbr H1 H2 HOwn
   have hwl := HX.out.lt
   have hwr2 := HBr.out.size
   go_upto_region 8 with fail
   generalize wr.alloc (.cells #[.int .i64 r.ver,.slice Ak.ta r.txt.length Ak.tc,.slice Ak.ga r.got.length Ak.gc,.slice Ak.sa r.sus.length Ak.sc,.bool r.wed,.bool r.rdy,.int .i64 r.by_,.slice Ak.ma r.trm.length Ak.mc] 37) = W5 at *
   clear c0 c1 c2 c3 c4 d0 d1 d2 d3 d4 d5 d6 d7 hra
   have facts : ∀ X,Below W5.heap.size W5 X → Below W.heap.size W X ∧ Below w.heap.size w X := fun X h => ⟨HBw.out.trans (h.mono HBw.out.size),(HB0.out.trans (HBw.out.mono HB0.out.size)).trans (h.mono (HB0.out.trans (HBw.out.mono HB0.out.size)).size)⟩
   have HFa : Hid (∀ X,Below W5.heap.size W5 X → Below W.heap.size W X ∧ Below w.heap.size w X) := facts
   obtain ⟨⟨x0,x1,x2,x3⟩,x4,x5,x6,x7⟩ := Bx.r8 HXr.out
   obtain ⟨c0,c1,c2,c3,c4⟩ := Bx.r5 (HMX.out _ HBw.out)
   rw [hi] at c0
   obtain ⟨gb,go,hga,hgcell⟩ := hgc _ HBl.out
   rw [hga] at x2
   have T : ∀ {x v},W5.cell? x = some v → ∀ q : Bk W5,q.w.cell? x = some v := fun h q => (q.h.cell (World.block_lt_of_cell? _ _ h)).trans h
   have y0 := T c0
   have y1 := T x1
   have y2 := T x2
   have y3 := T x3
   have y4 := T hgcell
   have hCn : ∀ q : Bk W5,Calls Tryz.prog 130 #[.slice Ak.sa r.sus.length Ak.sc,.int .i64 (i : Int)] q.w fun e w' => e = .returned (.bool (decide ((i : Int) ∈ r.sus))) ∧ Below q.w.heap.size q.w w' := fun q => (hCon q.w (HBl.out.trans (q.h.mono HBl.out.size))).mono (fun e w' h => ⟨h.1,by rw [h.2];exact Below.refl _ _⟩)
   have HL : Hid (m.rows.length = n) := hln
   clear T x0 x1 x2 x3 x4 x5 x6 x7 c0 c1 c2 c3 c4 facts hCon hgc hga hgcell hln hi hmi
   by_cases e7 : gi = (r.txt.length : Int)
   case neg =>
    have HZ : Hid (OK = false) := H3.out (by rw [decide_eq_false e7];rfl)
    have e7' : (gi == (r.txt.length : Int)) = false := by simpa using e7
    clear e7 H3 H4 H5
    refine wp_region_quiet_tail (C := fun w' => ∃ p : Bk W5,w' = p.w) 18 hmix (by kernel_rfl) ⟨⟨W5.drewN 1,belowN (Below.refl _ _)⟩,rfl⟩ ?_
    simp only [List.take_succ_cons,List.take_zero]
    repeat (go_big_quiet_step ((first | (go_at_call 130;exact bk_call _ (hCn _)) | rfl)))
    refine wpQuiet_nil ?_
    intro wE hw'
    obtain ⟨⟨w11,hb11⟩,hw''⟩ := hw'
    have hwe : wE = w11 := hw''
    clear hw''
    subst hwe
    simp only [List.drop_succ_cons,List.drop_zero]
    have HB9 : Hid (Below w.heap.size w wE) := (HFa.out _ hb11).2
    clear y0 y1 y2 y3 y4 hb11
    go_wp2_with (go_at_call 115;refine (wantF _).mono ?_;rintro e w' ⟨⟨T,v,rfl⟩,hw'⟩;rw [hw'];clear hw')
    exact ⟨rfl,.inr ⟨HOk.out.trans HZ.out,_,_,rfl⟩,HB9.out⟩
   have e7' : (gi == (r.txt.length : Int)) = true := by simpa using e7
   by_cases e8 : (i : Int) ∈ r.sus
   ·have HZ : Hid (OK = false) := H3.out (by rw [decide_eq_true e7,decide_eq_false (by simpa using e8)];rfl)
    rw [decide_eq_true e8] at hCn
    clear e7 H3 H4 H5 e8
    refine wp_region_quiet_tail (C := fun w' => ∃ p : Bk W5,w' = p.w) 18 hmix (by kernel_rfl) ⟨⟨W5.drewN 1,belowN (Below.refl _ _)⟩,rfl⟩ ?_
    simp only [List.take_succ_cons,List.take_zero]
    repeat (go_big_quiet_step ((first | (go_at_call 130;exact bk_call _ (hCn _)) | rfl)))
    refine wpQuiet_nil ?_
    intro wE hw'
    obtain ⟨⟨w11,hb11⟩,hw''⟩ := hw'
    have hwe : wE = w11 := hw''
    clear hw''
    subst hwe
    simp only [List.drop_succ_cons,List.drop_zero]
    have HB9 : Hid (Below w.heap.size w wE) := (HFa.out _ hb11).2
    clear y0 y1 y2 y3 y4 hb11
    go_wp2_with (go_at_call 115;refine (wantF _).mono ?_;rintro e w' ⟨⟨T,v,rfl⟩,hw'⟩;rw [hw'];clear hw')
    exact ⟨rfl,.inr ⟨HOk.out.trans HZ.out,_,_,rfl⟩,HB9.out⟩
   have HZ5 : Hid (sb = true → OK = (if m.done = true then r.rdy else fb)) := H5.out (by rw [decide_eq_true e7,decide_eq_true e8];rfl)
   rw [decide_eq_false e8] at hCn
   clear e7 H3 H5 e8
   refine wp_region_quiet_tail (C := fun w' => ∃ p : Bk W5,w' = p.w) 18 hmix (by kernel_rfl) ⟨⟨W5.drewN 1,belowN (Below.refl _ _)⟩,rfl⟩ ?_
   simp only [List.take_succ_cons,List.take_zero]
   repeat (go_big_quiet_step ((first | (go_at_call 130;exact bk_call _ (hCn _)) | rfl)))
   refine wpQuiet_nil ?_
   intro wE hw'
   obtain ⟨⟨w11,hb11⟩,hw''⟩ := hw'
   have hwe : wE = w11 := hw''
   clear hw''
   subst hwe
   simp only [List.drop_succ_cons,List.drop_zero]
   have HB9 : Hid (Below w.heap.size w wE) := (HFa.out _ hb11).2
   have hBW := (HFa.out _ hb11).1
   have hsu9 := hsu _ hBW
   have hcf9 := hcf _ hBW
   obtain ⟨c0,c1,c2,c3,c4⟩ := Bx.r5 (HMX.out _ hBW)
   obtain ⟨⟨x0,x1,x2,x3⟩,x4,x5,x6,x7⟩ := Bx.r8 (HXr.out.below hb11)
   clear y0 y1 y2 y3 y4 hb11 hBW hCn hsu hcf
   cases sb with
   | false =>
    have HZ : Hid (OK = false) := H4.out rfl
    go_wp2_with (first | (go_at_call 131;refine hsu9.mono ?_;rintro e w' ⟨rfl,hw'⟩;rw [hw'];clear hw') | (go_at_call 115;first | (refine (wantT _).mono ?_;rintro e w' ⟨rfl,hw'⟩;rw [hw'];clear hw') | (refine (wantF _).mono ?_;rintro e w' ⟨⟨T,v,rfl⟩,hw'⟩;rw [hw'];clear hw')))
    exact ⟨rfl,.inr ⟨HOk.out.trans HZ.out,_,_,rfl⟩,HB9.out⟩
   | true =>
    have HZ := HZ5.out rfl
    have HZ6 : Hid (OK = (if m.done = true then r.rdy else fb)) := HZ
    clear HZ HZ5 H4
    cases hd : m.done with
    | true =>
     rw [hd] at c4
     cases hr : r.rdy with
     | true =>
      have HZ : Hid (OK = true) := by rw [Hid,HZ6.out,hd,hr];rfl
      rw [hr] at x5
      clear hd hr
      go_wp2_with (first | (go_at_call 131;refine hsu9.mono ?_;rintro e w' ⟨rfl,hw'⟩;rw [hw'];clear hw') | (go_at_call 115;refine (wantT _).mono ?_;rintro e w' ⟨rfl,hw'⟩;rw [hw'];clear hw'))
      first | go_end0 | go_ret
      exact ⟨.inl ⟨HOk.out.trans HZ.out,rfl⟩,HB9.out⟩
     | false =>
      have HZ : Hid (OK = false) := by rw [Hid,HZ6.out,hd,hr];rfl
      rw [hr] at x5
      clear hd hr
      go_wp2_with (first | (go_at_call 131;refine hsu9.mono ?_;rintro e w' ⟨rfl,hw'⟩;rw [hw'];clear hw') | (go_at_call 115;first | (refine (wantT _).mono ?_;rintro e w' ⟨rfl,hw'⟩;rw [hw'];clear hw') | (refine (wantF _).mono ?_;rintro e w' ⟨⟨T,v,rfl⟩,hw'⟩;rw [hw'];clear hw')))
      exact ⟨rfl,.inr ⟨HOk.out.trans HZ.out,_,_,rfl⟩,HB9.out⟩
    | false =>
     rw [hd] at c4
     cases fb with
     | true =>
      have HZ : Hid (OK = true) := by rw [Hid,HZ6.out,hd];rfl
      clear hd
      go_wp2_with (first | (go_at_call 131;refine hsu9.mono ?_;rintro e w' ⟨rfl,hw'⟩;rw [hw'];clear hw') | (go_at_call 132;refine hcf9.mono ?_;rintro e w' ⟨rfl,hw'⟩;rw [hw'];clear hw') | (go_at_call 115;refine (wantT _).mono ?_;rintro e w' ⟨rfl,hw'⟩;rw [hw'];clear hw'))
      first | go_end0 | go_ret
      exact ⟨.inl ⟨HOk.out.trans HZ.out,rfl⟩,HB9.out⟩
     | false =>
      have HZ : Hid (OK = false) := by rw [Hid,HZ6.out,hd];rfl
      clear hd
      go_wp2_with (first | (go_at_call 131;refine hsu9.mono ?_;rintro e w' ⟨rfl,hw'⟩;rw [hw'];clear hw') | (go_at_call 132;refine hcf9.mono ?_;rintro e w' ⟨rfl,hw'⟩;rw [hw'];clear hw') | (go_at_call 115;first | (refine (wantT _).mono ?_;rintro e w' ⟨rfl,hw'⟩;rw [hw'];clear hw') | (refine (wantF _).mono ?_;rintro e w' ⟨⟨T,v,rfl⟩,hw'⟩;rw [hw'];clear hw')))
      exact ⟨rfl,.inr ⟨HOk.out.trans HZ.out,_,_,rfl⟩,HB9.out⟩
set_option maxRecDepth 100000 in
set_option maxHeartbeats 800000 in
theorem memI_any (A : Ma) (m : Mb) (w : World) (hv : MbP w A m) :
  Calls Tryz.prog 20 #[mbV A m] w fun e w' => e = .returned (.bool (okMb m)) ∧ Below w.heap.size w w' := by
 have hmf : ∀ (fn : Fn) (first cap : Array Value) (w : World),(Instr.makeFunc fn first cap).run Tryz.prog w = .ok (.func fn first cap) w := fun _ _ _ _ => rfl
 have hb0 := oneA16 w (.cells (mbC A m) 27)
 have hx0 := Bx.new w 27 (mbC A m)
 have h0 := hv.below hb0
 have hb1 := oneA16 (w.alloc (.cells (mbC A m) 27)) (.cells #[.bool false] 4)
 have hT := told_any 72 #[mbV A m] #[] (w.alloc (.cells (mbC A m) 27)) (fun b X => b = okMb m ∧ Below ((w.alloc (.cells (mbC A m) 27)).alloc (.cells #[.bool false] 4)).heap.size ((w.alloc (.cells (mbC A m) 27)).alloc (.cells #[.bool false] 4)) X) (fun _ _ => enters_of Tryz.func72 (by kernel_rfl) rfl _ _) ((chk_any A m _ (h0.below hb1)).mono (fun e w' ⟨h1,h2⟩ => by
  rcases h1 with ⟨h,h1⟩ | ⟨h,h1⟩
  ·exact .inl ⟨h1,h.symm,h2⟩
  ·exact .inr ⟨h1,h.symm,h2⟩)) (fun b X h => (Bx.new _ _ _).below h.2)
 have hF : ∀ e w',(∃ b X,e = Ending.returned (.bool b) ∧ (b = okMb m ∧ Below ((w.alloc (.cells (mbC A m) 27)).alloc (.cells #[.bool false] 4)).heap.size ((w.alloc (.cells (mbC A m) 27)).alloc (.cells #[.bool false] 4)) X) ∧ Wrt (fun x => x = (w.alloc (.cells (mbC A m) 27)).heap.size) X w') → e = .returned (.bool (okMb m)) ∧ Below w.heap.size w w' := by
  rintro e w' ⟨b,X,rfl,⟨rfl,h1⟩,h2⟩
  have hs := hb0.size
  have hbX := (hb0.trans (hb1.mono hb0.size)).trans (h1.mono (hb0.trans (hb1.mono hb0.size)).size)
  exact ⟨rfl,h2.below hbX hbX.size (fun b e => by omega)⟩
 have hT2 := hT.mono hF
 obtain ⟨c0,c1,c2,c3,c4⟩ := Bx.r5 hx0
 clear hF hT hb1 h0 hx0 hb0 hv
 unfold mbV mbC at *
 generalize okMb m = OK at *
 generalize hWW : w.alloc (.cells #[.int .i64 m.id,.int .i64 m.n,.slice A.ra m.rows.length A.rc,.slice A.sa m.sung.length A.sc,.bool m.done] 27) = W at *
 go_enter Tryz.func20,Tryz.ntmps20
 go_wp2_with (go_at_call 71;refine hT2.mono ?_;rintro e w1 ⟨rfl,hb1⟩;have HB1 : Hid (Below w.heap.size w w1) := hb1;clear hb1)
 go_ret
 exact ⟨rfl,HB1.out⟩
end Go.Proofs.YthioodpmgifomaaGreat
namespace Go.Proofs.YthioodpmgifomaaGreat
set_option linter.unusedVariables false
set_option linter.unusedSimpArgs false
open Go.RowKit Go.Sort
def imC (A : Ma) (m : Mb) : Array Value := #[.int .i64 m.id,.slice A.ra m.rows.length A.rc,.slice A.sa m.sung.length A.sc,.bool m.done]
def imV (A : Ma) (m : Mb) : Value := .agg (imC A m)
def AnsIm (w w' : World) (e : Ending) (m : Mb) : Prop := ∃ A : Ma,e = .returned (imV A m) ∧ NewL w w' (mbCels m) (mbVals A m)
theorem Bx.r4 {w : World} {B : Nat} {T : TypeId} {x0 x1 x2 x3 : Value} (h : Bx w B T #[x0,x1,x2,x3]) : w.cell? ⟨B,0,none⟩ = some x0 ∧ w.cell? ⟨B,1,none⟩ = some x1 ∧ w.cell? ⟨B,2,none⟩ = some x2 ∧ w.cell? ⟨B,3,none⟩ = some x3 := ⟨h.at 0 rfl,h.at 1 rfl,h.at 2 rfl,h.at 3 rfl⟩
theorem wrt4 (w : World) (g : Nat) {a b c d : Value} : Wrt (fun x => x = g) w ((((w.setCell ⟨g,0,none⟩ a).setCell ⟨g,1,none⟩ b).setCell ⟨g,2,none⟩ c).setCell ⟨g,3,none⟩ d) :=
 (((Wrt.set w g 0 a).trans (Wrt.set _ g 1 b) (fun _ _ h => h)).trans (Wrt.set _ g 2 c) (fun _ _ h => h)).trans (Wrt.set _ g 3 d) (fun _ _ h => h)
theorem le_mio {k : Nat} (h : k ≤ 100) : k ≤ 1000000 := Nat.le_trans h (by decide)
theorem mtA_any (v : Value) (w : World) : (Go.method 350 37 v "loop.example/g00266/impl.anew").run Tryz.prog w = .ok (126, v) w := by kernel_rfl
theorem ow_row_app {X X1 : World} {R : List Rw} {a : Option Addr} {c : Nat} {f : Fp} (h : Cel.ow X (lcl 8 rw8 R) (.slice a R.length c) f) (hb : Below X.heap.size X X1) {r : Rw} {Ar : Ra} {fr : Fp} (hr : owL X1 (rwCels r) (rwVals Ar r) fr) (hfr : ∀ b,fr b → X.heap.size ≤ b) (hl : R.length ≤ 1000000) :
  ∀ Y,Same Y (X1.alloc (.cells (rwC Ar r) 37)) → ∃ v' w4,(Builtin.append_ #[24,24] 24 #[.slice a R.length c,.slice (some ⟨X1.heap.size,0,none⟩) 1 1]).run Tryz.prog Y = .ok v' w4 ∧
   ∃ a' c' f',v' = .slice a' (R.length + 1) c' ∧ Cel.ow w4 (lcl 8 rw8 (R ++ [r])) (.slice a' (R ++ [r]).length c') f' ∧ (∀ b,f' b → f b ∨ X.heap.size ≤ b) ∧ Wrt f X w4 := by
 intro Y hY
 have hbY : Below X1.heap.size X1 Y := (oneA16 X1 _).trans (hY.below.mono (oneA16 X1 _).size)
 have h2 := Cel.ow_below (Cel.ow_below h hb) hbY
 have hrY := ow_rw8 (owL_below hr hbY)
 have hpl : ∀ b,f b → b < X.heap.size := Cel.ow_lt h
 have hXs := hb.size
 obtain ⟨a',c',w4,fp',k1,k2,k3,k4⟩ := ow_pushF (P := Tryz.prog) rw8_len (w := Y) 24 24 37 _ 120 Tryz.underlying24 Tryz.infoRw rfl (by omega) (x := r) h2 hrY (fun b hb1 hb2 => by have := hpl b hb1;have := hfr b hb2;omega) (by intro u hu;simp [rwC] at hu;rcases hu with h | h | h | h | h | h | h | h <;> rw [h] <;> rfl) X1.heap.size 37 (by rw [hY.heap];exact heap_alloc_new X1 _) (by unfold maxLen;omega) (by omega)
 have hYs : X1.heap.size < Y.heap.size := by rw [hY.size];simp
 have hXY : Below X.heap.size X Y := hb.trans (hbY.mono hb.size)
 refine ⟨_,w4,k1,a',c',fp',rfl,by rw [List.length_append];exact k2,fun b hb1 => ?_,(Wrt.of_below hXY).trans k3 (fun b _ h => h)⟩
 rcases k4 b hb1 with k | k | k
 ·exact .inl k
 ·exact .inr (hfr b k)
 ·exact .inr (by omega)
set_option maxRecDepth 100000 in
set_option maxHeartbeats 3200000 in
theorem alr_any (A : Ma) (m : Mb) (w : World) (hv : MbP w A m) (hok : ∀ k,k < m.rows.length → 0 < (rowN m.rows k).got.length ∧ szRw (rowN m.rows k) ≤ 1000) (hml : m.rows.length ≤ 5) :
  Calls Tryz.prog 202 #[.slice A.ra m.rows.length A.rc] w fun e w' => ∃ a c,e = .returned (.slice a m.rows.length c) ∧ NewO w w' (lcl 8 rw8 m.rows) (.slice a m.rows.length c) := by
 have hb0 := oneA16 w (.cells #[] 37)
 have HB0 : Hid (Below w.heap.size w (w.alloc (.cells #[] 37))) := hb0
 have HO0 : Hid (Cel.ow (w.alloc (.cells #[] 37)) (lcl 8 rw8 []) (.slice (some ⟨w.heap.size,0,none⟩) 0 0) (fun _ => False)) := ⟨some ⟨w.heap.size,0,none⟩,0,[],none,fun _ => False,rfl,OSo.nil _ _ (plainS _ _),⟨rfl,fun _ h => h⟩,fun _ _ h => h,fun b => by simp⟩
 have HV : Hid (MbP w A m) := hv
 have HOk : Hid (∀ k,k < m.rows.length → 0 < (rowN m.rows k).got.length ∧ szRw (rowN m.rows k) ≤ 1000) := hok
 clear hb0 hv hok
 go_enter Tryz.func202,Tryz.ntmps202
 go_wp2_with fail
 generalize w.alloc (.cells #[] 37) = W0 at *
 go_loopw [3,9] (fun v k wr => ∃ (j : Nat) (a : Option Addr) (cc : Nat) (Z : List Rw) (fz : Fp),j ≤ m.rows.length ∧ k = .int .i64 (j : Int) ∧ v = .slice a Z.length cc ∧ Hid (Z = m.rows.take j) ∧ Cel.ow wr (lcl 8 rw8 Z) (.slice a Z.length cc) fz ∧ (∀ b,fz b → w.heap.size ≤ b) ∧ Below w.heap.size w wr) (fun _ k _ => m.rows.length - (intOf k).toNat)
 case atStart => exact ⟨0,some ⟨w.heap.size,0,none⟩,0,[],_,Nat.zero_le _,rfl,rfl,rfl,HO0.out,fun b h => h.elim,HB0.out⟩
 case round =>
  obtain ⟨j,a,cc,Z,fz,hj,rfl,rfl,hZ,hO,hfz,hb⟩ := hrel
  by_cases hlt : j < m.rows.length
  ·have k1 : (j : Int) < (m.rows.length : Int) := by omega
   have k0 : (0 : Int) ≤ (j : Int) := by omega
   obtain ⟨g,off,Ak,hra,⟨⟨d0,d1,d2,d3⟩,d4,d5,d6,d7⟩,hrp⟩ := (HV.out.below hb).row hlt
   obtain ⟨hg0,hsr⟩ := HOk.out j hlt
   have HN : Hid (Z ++ [rowN m.rows j] = m.rows.take (j + 1)) := by
    rw [Hid,hZ.out,List.take_succ_eq_append_getElem hlt]
    simp [rowN,List.getD,hlt]
   have hZl : Z.length ≤ 1000000 := le_mio (by rw [hZ.out,List.length_take];omega)
   rw [hra]
   have HRa : Hid (A.ra = some ⟨g,off,none⟩) := hra
   generalize rowN m.rows j = r at *
   have hba := oneA16 wr (.cells #[.int .i64 r.ver,.slice Ak.ta r.txt.length Ak.tc,.slice Ak.ga r.got.length Ak.gc,.slice Ak.sa r.sus.length Ak.sc,.bool r.wed,.bool r.rdy,.int .i64 r.by_,.slice Ak.ma r.trm.length Ak.mc] 37)
   have hxr := Bx.new wr 37 #[.int .i64 r.ver,.slice Ak.ta r.txt.length Ak.tc,.slice Ak.ga r.got.length Ak.gc,.slice Ak.sa r.sus.length Ak.sc,.bool r.wed,.bool r.rdy,.int .i64 r.by_,.slice Ak.ma r.trm.length Ak.mc]
   have HBa : Hid (Below wr.heap.size wr (wr.alloc (.cells #[.int .i64 r.ver,.slice Ak.ta r.txt.length Ak.tc,.slice Ak.ga r.got.length Ak.gc,.slice Ak.sa r.sus.length Ak.sc,.bool r.wed,.bool r.rdy,.int .i64 r.by_,.slice Ak.ma r.trm.length Ak.mc] 37))) := hba
   have HB : Hid (Below w.heap.size w wr) := hb
   have HO : Hid (Cel.ow (wr.alloc (.cells #[.int .i64 r.ver,.slice Ak.ta r.txt.length Ak.tc,.slice Ak.ga r.got.length Ak.gc,.slice Ak.sa r.sus.length Ak.sc,.bool r.wed,.bool r.rdy,.int .i64 r.by_,.slice Ak.ma r.trm.length Ak.mc] 37)) (lcl 8 rw8 Z) (.slice a Z.length cc) fz) := Cel.ow_below hO hba
   have hAn := anw_any Ak r (wr.alloc (.cells #[.int .i64 r.ver,.slice Ak.ta r.txt.length Ak.tc,.slice Ak.ga r.got.length Ak.gc,.slice Ak.sa r.sus.length Ak.sc,.bool r.wed,.bool r.rdy,.int .i64 r.by_,.slice Ak.ma r.trm.length Ak.mc] 37)) (hrp.below hba) hg0 hsr
   unfold rwV at hAn
   unfold rwC at hAn
   obtain ⟨⟨x0,x1,x2,x3⟩,x4,x5,x6,x7⟩ := Bx.r8 hxr
   clear hrp hb hO hxr hba hra
   go_upto_region 5 with fail
   clear d0 d1 d2 d3 d4 d5 d6 d7
   generalize wr.alloc (.cells #[.int .i64 r.ver,.slice Ak.ta r.txt.length Ak.tc,.slice Ak.ga r.got.length Ak.gc,.slice Ak.sa r.sus.length Ak.sc,.bool r.wed,.bool r.rdy,.int .i64 r.by_,.slice Ak.ma r.trm.length Ak.mc] 37) = W5 at *
   have hmt := mtA_any (.agg #[.int .i64 r.ver,.slice Ak.ta r.txt.length Ak.tc,.slice Ak.ga r.got.length Ak.gc,.slice Ak.sa r.sus.length Ak.sc,.bool r.wed,.bool r.rdy,.int .i64 r.by_,.slice Ak.ma r.trm.length Ak.mc])
   go_wp2_with fail
   refine hAn.mono ?_
   rintro e V1 ⟨Ar,rfl,fr,hr1,hr2,hr3⟩
   have hA := ow_row_app HO.out hr3 hr1 hr2 hZl
   have HR3 : Hid (Below W5.heap.size W5 V1) := hr3
   have HR2 : Hid (W5.heap.size ≤ V1.heap.size) := hr3.size
   have HS5 : Hid (wr.heap.size ≤ W5.heap.size) := HBa.out.size
   clear hAn hmt x0 x1 x2 x3 x4 x5 x6 x7 hr1 hr2 hr3
   unfold rwV
   unfold rwC at hA ⊢
   go_wp2_with (at_builtin;refine wpList_append_of (by rfl) _ _ _ _ (by rfl) _ _ (by rfl) (by rfl) hA ⟨rfl,rfl,rfl,rfl⟩ ?_;rintro v1 w1 ⟨a1,e1,f1,rfl,q1,q2,q3⟩;have HQ1 : Hid (Cel.ow w1 (lcl 8 rw8 (Z ++ [r])) (.slice a1 (Z ++ [r]).length e1) f1) := q1;have HQ2 : Hid (∀ b,f1 b → fz b ∨ W5.heap.size ≤ b) := q2;have HQ3 : Hid (Wrt fz W5 w1) := q3;clear q1 q2 q3 hA)
   have HL : Hid ((Z ++ [r]).length = Z.length + 1) := by rw [Hid,List.length_append];rfl
   have hs1 := HB.out.size
   have hs2 := HS5.out
   go_roundw
   case rel => exact ⟨j + 1,a1,e1,Z ++ [r],f1,by omega,by go_num,by rw [HL.out],HN.out,HQ1.out,fun b hb => (HQ2.out b hb).elim (hfz b) (fun h => by omega),HQ3.out.below (HB.out.trans (HBa.out.mono HB.out.size)) (by omega) (fun b hb => hfz b hb)⟩
   case measure => simp [intOf];omega
  ·have k1 : ¬ ((j : Int) < (m.rows.length : Int)) := by omega
   have eZ : Z = m.rows := by rw [hZ.out,show j = m.rows.length by omega,List.take_length]
   subst eZ
   have HO : Hid (NewO w wr (lcl 8 rw8 m.rows) (.slice a m.rows.length cc)) := ⟨fz,hO,hfz,hb⟩
   clear hO hb hZ
   go_wp2
   go_ret
   exact ⟨a,cc,rfl,HO.out⟩
set_option maxRecDepth 100000 in
set_option maxHeartbeats 3200000 in
theorem mna_any (A : Ma) (m : Mb) (w : World) (hv : MbP w A m) (hok : ∀ k,k < m.rows.length → 0 < (rowN m.rows k).got.length ∧ szRw (rowN m.rows k) ≤ 1000) (hml : m.rows.length ≤ 5) (hsl : m.sung.length ≤ 100) :
  Calls Tryz.prog 172 #[mbV A m] w fun e w' => AnsMb w w' e m := by
 have hb1 := oneA16 w (.cells #[.int .i64 m.id,.int .i64 m.n,.slice A.ra m.rows.length A.rc,.slice A.sa m.sung.length A.sc,.bool m.done] 27)
 have hb2 := oneA16 (w.alloc (.cells #[.int .i64 m.id,.int .i64 m.n,.slice A.ra m.rows.length A.rc,.slice A.sa m.sung.length A.sc,.bool m.done] 27)) (.cells #[.int .i64 0,.int .i64 0,.slice none 0 0,.slice none 0 0,.bool false] 27)
 have hx1 : Bx ((w.alloc (.cells #[.int .i64 m.id,.int .i64 m.n,.slice A.ra m.rows.length A.rc,.slice A.sa m.sung.length A.sc,.bool m.done] 27)).alloc (.cells #[.int .i64 0,.int .i64 0,.slice none 0 0,.slice none 0 0,.bool false] 27)) w.heap.size 27 #[.int .i64 m.id,.int .i64 m.n,.slice A.ra m.rows.length A.rc,.slice A.sa m.sung.length A.sc,.bool m.done] := (Bx.new w _ _).alloc _
 have hx2 : Bx ((w.alloc (.cells #[.int .i64 m.id,.int .i64 m.n,.slice A.ra m.rows.length A.rc,.slice A.sa m.sung.length A.sc,.bool m.done] 27)).alloc (.cells #[.int .i64 0,.int .i64 0,.slice none 0 0,.slice none 0 0,.bool false] 27)) (w.heap.size + 1) 27 #[.int .i64 0,.int .i64 0,.slice none 0 0,.slice none 0 0,.bool false] := by
  have := Bx.new (w.alloc (.cells #[.int .i64 m.id,.int .i64 m.n,.slice A.ra m.rows.length A.rc,.slice A.sa m.sung.length A.sc,.bool m.done] 27)) 27 #[.int .i64 0,.int .i64 0,.slice none 0 0,.slice none 0 0,.bool false]
  simp only [World.size_alloc] at this
  exact this
 have hb12 : Below w.heap.size w ((w.alloc (.cells #[.int .i64 m.id,.int .i64 m.n,.slice A.ra m.rows.length A.rc,.slice A.sa m.sung.length A.sc,.bool m.done] 27)).alloc (.cells #[.int .i64 0,.int .i64 0,.slice none 0 0,.slice none 0 0,.bool false] 27)) := hb1.trans (hb2.mono hb1.size)
 have hsz : w.heap.size + 2 = ((w.alloc (.cells #[.int .i64 m.id,.int .i64 m.n,.slice A.ra m.rows.length A.rc,.slice A.sa m.sung.length A.sc,.bool m.done] 27)).alloc (.cells #[.int .i64 0,.int .i64 0,.slice none 0 0,.slice none 0 0,.bool false] 27)).heap.size := by simp only [World.size_alloc]
 unfold mbV mbC
 have HX1 : Hid (Bx ((w.alloc (.cells #[.int .i64 m.id,.int .i64 m.n,.slice A.ra m.rows.length A.rc,.slice A.sa m.sung.length A.sc,.bool m.done] 27)).alloc (.cells #[.int .i64 0,.int .i64 0,.slice none 0 0,.slice none 0 0,.bool false] 27)) w.heap.size 27 #[.int .i64 m.id,.int .i64 m.n,.slice A.ra m.rows.length A.rc,.slice A.sa m.sung.length A.sc,.bool m.done]) := hx1
 have HX2 : Hid (Bx ((w.alloc (.cells #[.int .i64 m.id,.int .i64 m.n,.slice A.ra m.rows.length A.rc,.slice A.sa m.sung.length A.sc,.bool m.done] 27)).alloc (.cells #[.int .i64 0,.int .i64 0,.slice none 0 0,.slice none 0 0,.bool false] 27)) (w.heap.size + 1) 27 #[.int .i64 0,.int .i64 0,.slice none 0 0,.slice none 0 0,.bool false]) := hx2
 have HB : Hid (Below w.heap.size w ((w.alloc (.cells #[.int .i64 m.id,.int .i64 m.n,.slice A.ra m.rows.length A.rc,.slice A.sa m.sung.length A.sc,.bool m.done] 27)).alloc (.cells #[.int .i64 0,.int .i64 0,.slice none 0 0,.slice none 0 0,.bool false] 27))) := hb12
 have HV : Hid (MbP w A m) := hv
 have HSz : Hid (w.heap.size + 2 = ((w.alloc (.cells #[.int .i64 m.id,.int .i64 m.n,.slice A.ra m.rows.length A.rc,.slice A.sa m.sung.length A.sc,.bool m.done] 27)).alloc (.cells #[.int .i64 0,.int .i64 0,.slice none 0 0,.slice none 0 0,.bool false] 27)).heap.size) := hsz
 obtain ⟨d0,d1,d2,d3,d4⟩ := Bx.r5 hx1
 clear hb1 hb2 hx1 hx2 hb12 hsz hv
 have hmix := mixed17
 clear d0 d1 d2 d3 d4
 go_enter Tryz.func172,Tryz.ntmps172
 go_upto_region 1 with fail
 generalize (w.alloc (.cells #[.int .i64 m.id,.int .i64 m.n,.slice A.ra m.rows.length A.rc,.slice A.sa m.sung.length A.sc,.bool m.done] 27)).alloc (.cells #[.int .i64 0,.int .i64 0,.slice none 0 0,.slice none 0 0,.bool false] 27) = W0 at *
 have hbd : Below W0.heap.size W0 W0.drew := (Same.drewN W0 1).below
 have KS : ∀ X,Below W0.heap.size W0 X → X.cell? ⟨w.heap.size,3,none⟩ = some (.slice A.sa m.sung.length A.sc) := fun X hX => (Bx.r5 (HX1.out.below hX)).2.2.2.1
 have d2 : W0.drew.cell? ⟨w.heap.size,2,none⟩ = some (.slice A.ra m.rows.length A.rc) := (Bx.r5 (HX1.out.below hbd)).2.2.1
 have hA1 := alr_any A m W0.drew ((HV.out.below HB.out).below hbd) hok hml
 refine gt_begin (S := fun X : World => X.cell? ⟨w.heap.size,3,none⟩ = some (.slice A.sa m.sung.length A.sc)) 9 hmix (by kernel_rfl) ?_
 have hHeld : (fun X : World => X.cell? ⟨w.heap.size,3,none⟩ = some (.slice A.sa m.sung.length A.sc)) W0.drew := (KS _ hbd)
 refine gt_pure (i := 0) (v := ?_) rfl (by kernel_rfl) (by kernel_rfl) (by kernel_rfl) (fun _ _ _ h => h) (Or.inl ⟨by rfl, ?_⟩) ?_
 rotate_left
 ·(intro X;go_simp;try with_reducible rfl)
 try simp only [Act.put,List.setIfInBounds_toArray,List.set_cons_zero,List.set_cons_succ]
 refine gt_pure (i := 3) (v := ?_) rfl (by kernel_rfl) (by kernel_rfl) (by kernel_rfl) (fun _ _ _ h => h) (Or.inl ⟨by rfl, ?_⟩) ?_
 rotate_left
 ·(intro X;go_simp;try with_reducible rfl)
 try simp only [Act.put,List.setIfInBounds_toArray,List.set_cons_zero,List.set_cons_succ]
 refine gt_take (i := 4) (v := ?_) rfl (by kernel_rfl) (by kernel_rfl) (by kernel_rfl) (by kernel_rfl) (fun _ _ _ h => h) (Or.inl ⟨by rfl, ?_⟩) hHeld ?_
 rotate_left
 ·(intro X hSX;(try dsimp only at hSX);have g0 := hSX;go_simp;try with_reducible rfl)
 try simp only [Act.put,List.setIfInBounds_toArray,List.set_cons_zero,List.set_cons_succ]
 refine gt_one (i := 1) rfl (by kernel_rfl) (by kernel_rfl) (fun K hK => ?_)
 go_simp
 refine hK.out _ _ (KS _ hbd) (fun hHeldN => ?_)
 clear hK hHeld
 have hHeld := hHeldN
 try simp only [Act.put,List.setIfInBounds_toArray,List.set_cons_zero,List.set_cons_succ]
 refine gt_one (i := 2) rfl (by kernel_rfl) (by kernel_rfl) (fun K hK => ?_)
 go_simp
 go_at_call 202
 refine hA1.mono ?_
 rintro e W3 ⟨a1,c1,rfl,f1,o1,p1,b1⟩
 have hb3 : Below W0.heap.size W0 W3 := hbd.trans (b1.mono hbd.size)
 have hA2 := cln_any A.sa A.sc m.sung W3 (HV.out.mbs.sung.below (HB.out.trans (hb3.mono HB.out.size)) (Nat.le_refl _)) (by omega)
 refine hK.out _ _ (KS _ hb3) (fun hHeldN => ?_)
 clear hK hHeld
 have hHeld := hHeldN
 try simp only [Act.put,List.setIfInBounds_toArray,List.set_cons_zero,List.set_cons_succ]
 refine gt_pure (i := 6) (v := ?_) rfl (by kernel_rfl) (by kernel_rfl) (by kernel_rfl) (fun _ _ _ h => h) (Or.inl ⟨by rfl, ?_⟩) ?_
 rotate_left
 ·(intro X;go_simp;try with_reducible rfl)
 try simp only [Act.put,List.setIfInBounds_toArray,List.set_cons_zero,List.set_cons_succ]
 refine gt_one (i := 5) rfl (by kernel_rfl) (by kernel_rfl) (fun K hK => ?_)
 go_simp
 go_at_call 176
 refine hA2.mono ?_
 rintro e W4 ⟨a2,c2,rfl,f2,o2,p2,b2⟩
 have hb4 : Below W0.heap.size W0 W4 := hb3.trans (b2.mono hb3.size)
 have hx4 : Bx W4 w.heap.size 27 #[.int .i64 m.id,.int .i64 m.n,.slice A.ra m.rows.length A.rc,.slice A.sa m.sung.length A.sc,.bool m.done] := HX1.out.below hb4
 have HX4 : Hid (Bx W4 w.heap.size 27 #[.int .i64 m.id,.int .i64 m.n,.slice A.ra m.rows.length A.rc,.slice A.sa m.sung.length A.sc,.bool m.done]) := hx4
 have HY4 : Hid (Bx W4 (w.heap.size + 1) 27 #[.int .i64 0,.int .i64 0,.slice none 0 0,.slice none 0 0,.bool false]) := HX2.out.below hb4
 have HB4 : Hid (Below W0.heap.size W0 W4) := hb4
 have HN1 : Hid (NewO W0 W3 (lcl 8 rw8 m.rows) (.slice a1 m.rows.length c1)) := ⟨f1,o1,p1,hb3⟩
 have HN2 : Hid (NewO W3 W4 (icl m.sung) (.slice a2 m.sung.length c2)) := ⟨f2,o2,p2,b2⟩
 refine hK.out _ _ (KS _ hb4) (fun hHeldN => ?_)
 clear hK hHeld
 have hHeld := hHeldN
 try simp only [Act.put,List.setIfInBounds_toArray,List.set_cons_zero,List.set_cons_succ]
 have e2 := hx4.f 2
 clear d2
 obtain ⟨d0,d1,d2,d3,d4⟩ := Bx.r5 hx4
 have hx6 : Bx (W4.setCell ⟨w.heap.size,2,none⟩ (.slice a1 m.rows.length c1)) w.heap.size 27 #[.int .i64 m.id,.int .i64 m.n,.slice a1 m.rows.length c1,.slice A.sa m.sung.length A.sc,.bool m.done] := by simpa using hx4.setC 2 (.slice a1 m.rows.length c1)
 have e3 := hx6.f 3
 have z3 := hx6.at 3 (v := .slice A.sa m.sung.length A.sc) rfl
 refine gt_one (i := 7) rfl (by kernel_rfl) (by kernel_rfl) (fun K hK => ?_)
 go_simp
 refine hK.out _ _ z3 (fun hHeldN => ?_)
 clear hK hHeld
 have hHeld := hHeldN
 try simp only [Act.put,List.setIfInBounds_toArray,List.set_cons_zero,List.set_cons_succ]
 refine gt_pure (i := 8) (v := ?_) rfl (by kernel_rfl) (by kernel_rfl) (by kernel_rfl) (fun _ _ _ h => h) (Or.inl ⟨by rfl, ?_⟩) ?_
 rotate_left
 ·(intro X;go_simp;try with_reducible rfl)
 try simp only [Act.put,List.setIfInBounds_toArray,List.set_cons_zero,List.set_cons_succ]
 refine gt_last rfl (by kernel_rfl) (by kernel_rfl) (fun K hK => ?_)
 go_simp
 refine hK.out _ _ ?_
 clear hK hHeld hx6 z3 e2 e3 d0 d1 d2 d3 d4 hx4 o1 o2 p1 p2 b1 b2 hb3 hb4 hbd KS hA1 hA2
 go_upto_region 2 with fail
 have hx5 : Bx ((W4.setCell ⟨w.heap.size,2,none⟩ (.slice a1 m.rows.length c1)).setCell ⟨w.heap.size,3,none⟩ (.slice a2 m.sung.length c2)) w.heap.size 27 #[.int .i64 m.id,.int .i64 m.n,.slice a1 m.rows.length c1,.slice a2 m.sung.length c2,.bool m.done] := by simpa using (HX4.out.setC 2 (.slice a1 m.rows.length c1)).setC 3 (.slice a2 m.sung.length c2)
 have hy5 : Bx ((W4.setCell ⟨w.heap.size,2,none⟩ (.slice a1 m.rows.length c1)).setCell ⟨w.heap.size,3,none⟩ (.slice a2 m.sung.length c2)) (w.heap.size + 1) 27 #[.int .i64 0,.int .i64 0,.slice none 0 0,.slice none 0 0,.bool false] := (HY4.out.far (by omega) _).far (by omega) _
 have hw5 : Wrt (fun x => x = w.heap.size) W4 ((W4.setCell ⟨w.heap.size,2,none⟩ (.slice a1 m.rows.length c1)).setCell ⟨w.heap.size,3,none⟩ (.slice a2 m.sung.length c2)) := (Wrt.set W4 w.heap.size 2 _).trans (Wrt.set _ w.heap.size 3 _) (fun _ _ h => h)
 have HL5 : Hid (∃ f,owL ((W4.setCell ⟨w.heap.size,2,none⟩ (.slice a1 m.rows.length c1)).setCell ⟨w.heap.size,3,none⟩ (.slice a2 m.sung.length c2)) (mbCels m) (mbVals ⟨a1,c1,a2,c2⟩ m) f ∧ ∀ b,f b → w.heap.size + 2 ≤ b) := by
  obtain ⟨f1,o1,p1,b1⟩ := HN1.out
  obtain ⟨f2,o2,p2,b2⟩ := HN2.out
  have hs := HSz.out
  have hs1 := b1.size
  have hl1 := Cel.ow_lt o1
  refine ⟨_,owL_c (Cel.ow_wrt (Cel.ow_below o1 b2) hw5 (fun b hb e => by have := p1 b hb;omega)) (owL_c (Cel.ow_wrt o2 hw5 (fun b hb e => by have := p2 b hb;omega)) (⟨rfl,fun _ h => h⟩ : owL _ [] [] (fun _ => False)) (fun _ _ h => h)) (fun b h1 h2 => by rcases h2 with h2 | h2;have := hl1 b h1;have := p2 b h2;omega;exact h2),fun b hb => ?_⟩
  rcases hb with h | h | h
  ·have := p1 b h;omega
  ·have := p2 b h;omega
  ·exact h.elim
 have HB5 : Hid (Below w.heap.size w ((W4.setCell ⟨w.heap.size,2,none⟩ (.slice a1 m.rows.length c1)).setCell ⟨w.heap.size,3,none⟩ (.slice a2 m.sung.length c2))) := by
  have hb := HB.out.trans (HB4.out.mono HB.out.size)
  exact hw5.below hb hb.size (fun b e => by omega)
 clear hw5
 obtain ⟨d0,d1,d2,d3,d4⟩ := Bx.r5 hx5
 obtain ⟨z0,z1,z2,z3,z4⟩ := Bx.r5 hy5
 obtain ⟨y0,y1,y2,y3,y4⟩ := hy5.f5
 clear hx5 hy5
 generalize (W4.setCell ⟨w.heap.size,2,none⟩ (.slice a1 m.rows.length c1)).setCell ⟨w.heap.size,3,none⟩ (.slice a2 m.sung.length c2) = W5 at *
 have HN : Hid (∀ {z0 z1 z2 z3 z4 : Value},NewL w (((((W5.setCell ⟨w.heap.size + 1,0,none⟩ z0).setCell ⟨w.heap.size + 1,1,none⟩ z1).setCell ⟨w.heap.size + 1,2,none⟩ z2).setCell ⟨w.heap.size + 1,3,none⟩ z3).setCell ⟨w.heap.size + 1,4,none⟩ z4) (mbCels m) (mbVals ⟨a1,c1,a2,c2⟩ m)) := fun {z0 z1 z2 z3 z4} => by
  obtain ⟨f,h1,h2⟩ := HL5.out
  exact ⟨f,owL_wrt h1 (wrt5 W5 (w.heap.size + 1)) (fun b hb e => by have := h2 b hb;omega),fun b hb => by have := h2 b hb;omega,(wrt5 W5 (w.heap.size + 1)).below HB5.out HB5.out.size (fun b e => by omega)⟩
 go_wp2
 refine bodyPost_ret (v := mbV ⟨a1,c1,a2,c2⟩ m) (by simp [results,Tryz.results172,go_sem,mbV,mbC, *]) rfl ?_
 exact ⟨_,rfl,HN.out⟩
set_option maxRecDepth 100000 in
set_option maxHeartbeats 3200000 in
theorem mof_any (A : Ma) (m : Mb) (i n : Nat) (w : World) (hv : MbP w A m) (ok : OkM m i n) :
  Calls Tryz.prog 113 #[mbV A m] w fun e w' => AnsIm w w' e m := by
 have hb1 := oneA16 w (.cells #[.int .i64 m.id,.int .i64 m.n,.slice A.ra m.rows.length A.rc,.slice A.sa m.sung.length A.sc,.bool m.done] 27)
 have hb2 := oneA16 (w.alloc (.cells #[.int .i64 m.id,.int .i64 m.n,.slice A.ra m.rows.length A.rc,.slice A.sa m.sung.length A.sc,.bool m.done] 27)) (.cells #[.int .i64 0,.slice none 0 0,.slice none 0 0,.bool false] 139)
 have hx1 : Bx ((w.alloc (.cells #[.int .i64 m.id,.int .i64 m.n,.slice A.ra m.rows.length A.rc,.slice A.sa m.sung.length A.sc,.bool m.done] 27)).alloc (.cells #[.int .i64 0,.slice none 0 0,.slice none 0 0,.bool false] 139)) w.heap.size 27 #[.int .i64 m.id,.int .i64 m.n,.slice A.ra m.rows.length A.rc,.slice A.sa m.sung.length A.sc,.bool m.done] := (Bx.new w _ _).alloc _
 have hx2 : Bx ((w.alloc (.cells #[.int .i64 m.id,.int .i64 m.n,.slice A.ra m.rows.length A.rc,.slice A.sa m.sung.length A.sc,.bool m.done] 27)).alloc (.cells #[.int .i64 0,.slice none 0 0,.slice none 0 0,.bool false] 139)) (w.heap.size + 1) 139 #[.int .i64 0,.slice none 0 0,.slice none 0 0,.bool false] := by
  have := Bx.new (w.alloc (.cells #[.int .i64 m.id,.int .i64 m.n,.slice A.ra m.rows.length A.rc,.slice A.sa m.sung.length A.sc,.bool m.done] 27)) 139 #[.int .i64 0,.slice none 0 0,.slice none 0 0,.bool false]
  simp only [World.size_alloc] at this
  exact this
 have hb12 : Below w.heap.size w ((w.alloc (.cells #[.int .i64 m.id,.int .i64 m.n,.slice A.ra m.rows.length A.rc,.slice A.sa m.sung.length A.sc,.bool m.done] 27)).alloc (.cells #[.int .i64 0,.slice none 0 0,.slice none 0 0,.bool false] 139)) := hb1.trans (hb2.mono hb1.size)
 have hsz : w.heap.size + 2 = ((w.alloc (.cells #[.int .i64 m.id,.int .i64 m.n,.slice A.ra m.rows.length A.rc,.slice A.sa m.sung.length A.sc,.bool m.done] 27)).alloc (.cells #[.int .i64 0,.slice none 0 0,.slice none 0 0,.bool false] 139)).heap.size := by simp only [World.size_alloc]
 have hn5 := ok.n5
 have hA1 := mna_any A m ((w.alloc (.cells #[.int .i64 m.id,.int .i64 m.n,.slice A.ra m.rows.length A.rc,.slice A.sa m.sung.length A.sc,.bool m.done] 27)).alloc (.cells #[.int .i64 0,.slice none 0 0,.slice none 0 0,.bool false] 139)) (hv.below hb12) (fun k hk => by
  have h := ok.ok k (by rw [← ok.len];exact hk)
  exact ⟨by rw [h.gl];omega,by have := h.c8.2;omega⟩) (by rw [ok.len];omega) (by have := ok.sl;omega)
 unfold mbV mbC at hA1
 unfold mbV mbC
 have HX2 : Hid (Bx ((w.alloc (.cells #[.int .i64 m.id,.int .i64 m.n,.slice A.ra m.rows.length A.rc,.slice A.sa m.sung.length A.sc,.bool m.done] 27)).alloc (.cells #[.int .i64 0,.slice none 0 0,.slice none 0 0,.bool false] 139)) (w.heap.size + 1) 139 #[.int .i64 0,.slice none 0 0,.slice none 0 0,.bool false]) := hx2
 have HB : Hid (Below w.heap.size w ((w.alloc (.cells #[.int .i64 m.id,.int .i64 m.n,.slice A.ra m.rows.length A.rc,.slice A.sa m.sung.length A.sc,.bool m.done] 27)).alloc (.cells #[.int .i64 0,.slice none 0 0,.slice none 0 0,.bool false] 139))) := hb12
 have HSz : Hid (w.heap.size + 2 = ((w.alloc (.cells #[.int .i64 m.id,.int .i64 m.n,.slice A.ra m.rows.length A.rc,.slice A.sa m.sung.length A.sc,.bool m.done] 27)).alloc (.cells #[.int .i64 0,.slice none 0 0,.slice none 0 0,.bool false] 139)).heap.size) := hsz
 obtain ⟨d0,d1,d2,d3,d4⟩ := Bx.r5 hx1
 clear hb1 hb2 hx1 hx2 hb12 hsz hv
 go_enter Tryz.func113,Tryz.ntmps113
 go_upto_region 1 with fail
 generalize (w.alloc (.cells #[.int .i64 m.id,.int .i64 m.n,.slice A.ra m.rows.length A.rc,.slice A.sa m.sung.length A.sc,.bool m.done] 27)).alloc (.cells #[.int .i64 0,.slice none 0 0,.slice none 0 0,.bool false] 139) = W0 at *
 go_wp2_with fail
 refine hA1.mono ?_
 rintro e W3 ⟨A3,rfl,f3,h1,h2,h3⟩
 unfold mbV mbC
 have hb7 := oneA16 W3 (.cells #[.int .i64 m.id,.int .i64 m.n,.slice A3.ra m.rows.length A3.rc,.slice A3.sa m.sung.length A3.sc,.bool m.done] 27)
 have hx7 := Bx.new W3 27 #[.int .i64 m.id,.int .i64 m.n,.slice A3.ra m.rows.length A3.rc,.slice A3.sa m.sung.length A3.sc,.bool m.done]
 have hy7 := (HX2.out.below h3).below hb7
 have HL7 : Hid (owL (W3.alloc (.cells #[.int .i64 m.id,.int .i64 m.n,.slice A3.ra m.rows.length A3.rc,.slice A3.sa m.sung.length A3.sc,.bool m.done] 27)) (mbCels m) (mbVals A3 m) f3 ∧ ∀ b,f3 b → w.heap.size + 2 ≤ b) := ⟨owL_below h1 hb7,fun b hb => by have := h2 b hb;have := HSz.out;omega⟩
 have HB7 : Hid (Below w.heap.size w (W3.alloc (.cells #[.int .i64 m.id,.int .i64 m.n,.slice A3.ra m.rows.length A3.rc,.slice A3.sa m.sung.length A3.sc,.bool m.done] 27))) := by
  have hb := HB.out.trans (h3.mono HB.out.size)
  exact hb.trans (hb7.mono hb.size)
 clear d0 d1 d2 d3 d4 hA1 h1 h2 h3 hb7
 obtain ⟨d0,d1,d2,d3,d4⟩ := Bx.r5 hx7
 obtain ⟨z0,z1,z2,z3⟩ := Bx.r4 hy7
 have y0 := hy7.f 0
 have y1 := hy7.f 1
 have y2 := hy7.f 2
 have y3 := hy7.f 3
 clear hx7 hy7
 go_upto_region 2 with fail
 generalize W3.alloc (.cells #[.int .i64 m.id,.int .i64 m.n,.slice A3.ra m.rows.length A3.rc,.slice A3.sa m.sung.length A3.sc,.bool m.done] 27) = W5 at *
 have HN : Hid (∀ {z0 z1 z2 z3 : Value},NewL w ((((W5.setCell ⟨w.heap.size + 1,0,none⟩ z0).setCell ⟨w.heap.size + 1,1,none⟩ z1).setCell ⟨w.heap.size + 1,2,none⟩ z2).setCell ⟨w.heap.size + 1,3,none⟩ z3) (mbCels m) (mbVals A3 m)) := fun {z0 z1 z2 z3} => by
  obtain ⟨h1,h2⟩ := HL7.out
  exact ⟨f3,owL_wrt h1 (wrt4 W5 (w.heap.size + 1)) (fun b hb e => by have := h2 b hb;omega),fun b hb => by have := h2 b hb;omega,(wrt4 W5 (w.heap.size + 1)).below HB7.out HB7.out.size (fun b e => by omega)⟩
 go_wp2
 refine bodyPost_ret (v := imV A3 m) (by simp [results,Tryz.results113,go_sem,imV,imC, *]) rfl ?_
 exact ⟨_,rfl,HN.out⟩
end Go.Proofs.YthioodpmgifomaaGreat
namespace Go.Proofs.YthioodpmgifomaaGreat
set_option linter.unusedVariables false
set_option linter.unusedSimpArgs false
open Go.RowKit Go.Sort
theorem ow_mb4 {w : World} {A : Ma} {m : Mb} {f : Fp} (h : owL w (mbCels m) (mbVals A m) f) : owL w (mb4 m) (imC A m).toList f := by
 obtain ⟨u1,us1,f1,g1,e1,o1,h2,d1,i1⟩ := h
 cases e1
 obtain ⟨u2,us2,f2,g2,e2,o2,h3,d2,i2⟩ := h2
 cases e2
 exact owL_v ⟨_,_,f1,g1,rfl,o1,⟨_,_,f2,g2,rfl,o2,owL_v h3,d2,i2⟩,d1,i1⟩
theorem mb4_ow {w : World} {m : Mb} {us : List Value} {f : Fp} (h : owL w (mb4 m) us f) : ∃ A : Ma,us = (imC A m).toList ∧ owL w (mbCels m) (mbVals A m) f := by
 obtain ⟨us0,rfl,hq1⟩ := owL_v' h
 obtain ⟨u1,us1,f1,g1,rfl,o1,h2,d1,i1⟩ := hq1
 obtain ⟨u2,us2,f2,g2,rfl,o2,h3,d2,i2⟩ := h2
 obtain ⟨us4,rfl,⟨rfl,h4⟩⟩ := owL_v' h3
 have o1' := o1
 obtain ⟨ra,rc,_,_,_,rfl,_⟩ := o1'
 obtain ⟨sa,sc,_,rfl,_⟩ := ow_icl.1 o2
 exact ⟨⟨ra,rc,sa,sc⟩,rfl,⟨_,_,f1,g1,rfl,o1,⟨_,_,f2,g2,rfl,o2,⟨rfl,h4⟩,d2,i2⟩,d1,i1⟩⟩
theorem Plc.c4 {w : World} {B : Nat} {m : Mb} {f : Fp} (h : Plc w B 0 (mb4 m) f) : ∃ A : Ma,C4 w B (.int .i64 m.id) (.slice A.ra m.rows.length A.rc) (.slice A.sa m.sung.length A.sc) (.bool m.done) ∧ (w.frozen? ⟨B,0,none⟩ = false ∧ w.frozen? ⟨B,1,none⟩ = false ∧ w.frozen? ⟨B,2,none⟩ = false ∧ w.frozen? ⟨B,3,none⟩ = false) ∧ owL w (mbCels m) (mbVals A m) f := by
 obtain ⟨vs,hpc,hov,_⟩ := h
 obtain ⟨A,rfl,hl⟩ := mb4_ow hov
 have hl4 : (imC A m).toList.length = 4 := rfl
 have c := hpc.cell
 have f := hpc.free
 exact ⟨A,⟨c 0 (by rw [hl4];omega),c 1 (by rw [hl4];omega),c 2 (by rw [hl4];omega),c 3 (by rw [hl4];omega)⟩,⟨f 0 (by rw [hl4];omega),f 1 (by rw [hl4];omega),f 2 (by rw [hl4];omega),f 3 (by rw [hl4];omega)⟩,hl⟩
theorem ibox_plc {w : World} {B : Nat} {T : TypeId} {A : Ma} {m : Mb} {fp : Fp} (h : Bx w B T (imC A m)) (hl : owL w (mbCels m) (mbVals A m) fp) (hB : ¬ fp B) : Plc w B 0 (mb4 m) fp := ⟨_,h.pc,ow_mb4 hl,hB⟩
set_option maxRecDepth 100000 in
set_option maxHeartbeats 800000 in
theorem tol_any (A : Ma) (m : Mb) (w : World) (hn : m.n = (m.rows.length : Int)) :
  Calls Tryz.prog 116 #[imV A m] w fun e w' => e = .returned (mbV A m) ∧ Below w.heap.size w w' := by
 have hmix := mixed17
 have hb1 := oneA16 w (.cells #[.int .i64 m.id,.slice A.ra m.rows.length A.rc,.slice A.sa m.sung.length A.sc,.bool m.done] 139)
 have hb2 := oneA16 (w.alloc (.cells #[.int .i64 m.id,.slice A.ra m.rows.length A.rc,.slice A.sa m.sung.length A.sc,.bool m.done] 139)) (.cells #[.int .i64 0,.int .i64 0,.slice none 0 0,.slice none 0 0,.bool false] 27)
 have hx1 : Bx ((w.alloc (.cells #[.int .i64 m.id,.slice A.ra m.rows.length A.rc,.slice A.sa m.sung.length A.sc,.bool m.done] 139)).alloc (.cells #[.int .i64 0,.int .i64 0,.slice none 0 0,.slice none 0 0,.bool false] 27)) w.heap.size 139 #[.int .i64 m.id,.slice A.ra m.rows.length A.rc,.slice A.sa m.sung.length A.sc,.bool m.done] := (Bx.new w _ _).alloc _
 have hx2 : Bx ((w.alloc (.cells #[.int .i64 m.id,.slice A.ra m.rows.length A.rc,.slice A.sa m.sung.length A.sc,.bool m.done] 139)).alloc (.cells #[.int .i64 0,.int .i64 0,.slice none 0 0,.slice none 0 0,.bool false] 27)) (w.heap.size + 1) 27 #[.int .i64 0,.int .i64 0,.slice none 0 0,.slice none 0 0,.bool false] := by
  have := Bx.new (w.alloc (.cells #[.int .i64 m.id,.slice A.ra m.rows.length A.rc,.slice A.sa m.sung.length A.sc,.bool m.done] 139)) 27 #[.int .i64 0,.int .i64 0,.slice none 0 0,.slice none 0 0,.bool false]
  simp only [World.size_alloc] at this
  exact this
 have hb12 : Below w.heap.size w ((w.alloc (.cells #[.int .i64 m.id,.slice A.ra m.rows.length A.rc,.slice A.sa m.sung.length A.sc,.bool m.done] 139)).alloc (.cells #[.int .i64 0,.int .i64 0,.slice none 0 0,.slice none 0 0,.bool false] 27)) := hb1.trans (hb2.mono hb1.size)
 unfold imV imC
 have HX2 : Hid (Bx ((w.alloc (.cells #[.int .i64 m.id,.slice A.ra m.rows.length A.rc,.slice A.sa m.sung.length A.sc,.bool m.done] 139)).alloc (.cells #[.int .i64 0,.int .i64 0,.slice none 0 0,.slice none 0 0,.bool false] 27)) (w.heap.size + 1) 27 #[.int .i64 0,.int .i64 0,.slice none 0 0,.slice none 0 0,.bool false]) := hx2
 have HB : Hid (Below w.heap.size w ((w.alloc (.cells #[.int .i64 m.id,.slice A.ra m.rows.length A.rc,.slice A.sa m.sung.length A.sc,.bool m.done] 139)).alloc (.cells #[.int .i64 0,.int .i64 0,.slice none 0 0,.slice none 0 0,.bool false] 27))) := hb12
 obtain ⟨c0,c1,c2,c3⟩ := Bx.r4 hx1
 have HN : Hid (m.n = (m.rows.length : Int)) := hn
 clear hb1 hb2 hx1 hx2 hb12 hn
 go_enter Tryz.func116,Tryz.ntmps116
 go_upto_region 1 with fail
 generalize ((w.alloc (.cells #[.int .i64 m.id,.slice A.ra m.rows.length A.rc,.slice A.sa m.sung.length A.sc,.bool m.done] 139)).alloc (.cells #[.int .i64 0,.int .i64 0,.slice none 0 0,.slice none 0 0,.bool false] 27)) = W0 at *
 have T : ∀ {x v},W0.cell? x = some v → ∀ q : Bk W0,q.w.cell? x = some v := fun h q => (q.h.cell (World.block_lt_of_cell? _ _ h)).trans h
 have y0 := T c0
 have y1 := T c1
 have y2 := T c2
 have y3 := T c3
 have hC : ∀ q : Bk W0,Calls Tryz.prog 124 #[.pointer (some ⟨w.heap.size,0,none⟩)] q.w fun e w' => e = .returned (.int .i64 (m.rows.length : Int)) ∧ Below q.w.heap.size q.w w' := fun q => (cnt_any w.heap.size A.ra m.rows.length A.rc q.w (y1 q)).mono (fun e w' h => ⟨h.1,by rw [h.2];exact Below.refl _ _⟩)
 clear T c0 c1 c2 c3
 refine wp_region_quiet_tail (C := fun w' => ∃ p : Bk W0,w' = p.w) 13 hmix (by kernel_rfl) ⟨⟨W0.drewN 1,belowN (Below.refl _ _)⟩,rfl⟩ ?_
 simp only [List.take_succ_cons,List.take_zero]
 repeat (go_big_quiet_step ((first | (go_at_call 124;exact bk_call _ (hC _)) | rfl)))
 refine wpQuiet_nil ?_
 intro wE hw'
 obtain ⟨⟨w11,hb11⟩,hw''⟩ := hw'
 have hwe : wE = w11 := hw''
 clear hw''
 subst hwe
 simp only [List.drop_succ_cons,List.drop_zero]
 have hR := HX2.out.below hb11
 have HB1 : Hid (Below w.heap.size w wE) := HB.out.trans (hb11.mono HB.out.size)
 obtain ⟨z0,z1,z2,z3,z4⟩ := Bx.r5 hR
 obtain ⟨f0,f1,f2,f3,f4⟩ := hR.f5
 clear y0 y1 y2 y3 hC hb11 hR HX2
 go_wp2
 refine bodyPost_ret (v := mbV A m) (by simp [results,Tryz.results116,go_sem,mbV,mbC,HN.out, *]) rfl ?_
 exact ⟨rfl,(wrt5 wE (w.heap.size + 1)).below HB1.out HB1.out.size (fun b e => by omega)⟩
set_option maxRecDepth 100000 in
set_option maxHeartbeats 800000 in
theorem wk1_any (F : Nat) (C : Array Value) (m : Mb) (B wb : Nat) (fp : Fp) (X : World) (R : Ending → World → Prop) (hE : ∀ (args : Array Value) (w : World),(callFunc F args).run Tryz.prog w = .ok (.enter F args) w) (h : Plc X B 0 (mb4 m) fp) (hw : X.cell? ⟨wb,0,none⟩ = some (.func (.func F) #[] C))
  (hF : m.done = false → Calls Tryz.prog F (#[.pointer (some ⟨B,0,none⟩)] ++ C) X R) (hD : m.done = true → ∀ e,Gu e → R e X) (hR : ∀ e w',R e w' → e = .returned (.tuple #[]) ∨ Gu e) :
  Calls Tryz.prog 114 #[.pointer (some ⟨B,0,none⟩),.pointer (some ⟨wb,0,none⟩)] X R := by
 obtain ⟨A,⟨c0,c1,c2,c3⟩,_,_⟩ := h.c4
 cases hd : m.done with
 | true =>
  have HD : Hid (∀ e,Gu e → R e X) := hD hd
  rw [hd] at c3
  clear hD hF hd h hR
  go_enter Tryz.func114,Tryz.ntmps114
  go_wp2_with (go_at_call 115;refine (wantF _).mono ?_;rintro e w' ⟨⟨T,v,rfl⟩,hw'⟩;rw [hw'];clear hw')
  exact ⟨rfl,HD.out _ ⟨_,_,rfl⟩⟩
 | false =>
  have hFF := hF hd
  rw [hd] at c3
  have HR : Hid (∀ e w',R e w' → e = .returned (.tuple #[]) ∨ Gu e) := hR
  clear hD hF hd h hR
  go_enter Tryz.func114,Tryz.ntmps114
  go_wp2_with (go_at_call 115;refine (wantT _).mono ?_;rintro e w' ⟨rfl,hw'⟩;rw [hw'];clear hw')
  refine hFF.mono ?_
  intro e w1 hRe
  rcases HR.out e w1 hRe with rfl | ⟨T,v,rfl⟩
  ·have HRe : Hid (R (.returned (.tuple #[])) w1) := hRe
   clear hRe hFF c0 c1 c2 c3
   go_wp2
   first | go_end0 | go_ret
   exact HRe.out
  ·exact ⟨rfl,hRe⟩
end Go.Proofs.YthioodpmgifomaaGreat