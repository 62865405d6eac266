/-
  Texts in one: Nmc Pga Pgb Qaa.
-/
import Derived.Test.YtlnmdfgcpfbleaaJaf
import Derived.Test.YtlnmdfgcpfbleaaJae
import Derived.Test.YtlnmdfgcpfbleaaJac
namespace Go.Proofs.Ytlnmdfgcpfbleaa
set_option linter.unusedVariables false
set_option linter.unusedSimpArgs false
open Go.RowKit Go.Sort
theorem okMb_chk (m : Mb) : okMb m = ((inB m.n 1 5 && (inB m.id 0 (m.n - 1) && decide ((m.rows.length : Int) = m.n))) && (m.rows.all (fun r => okRw r m.n) && ((decide (el m.own.got m.i = (m.own.txt.length : Int)) && decide (m.id ∉ m.own.sus)) && (susB m.sung 60 && (if m.done = true then m.own.rdy else (List.range m.sung.length).all (fun i => decide (el m.sung i = (i : Int)))))))) := by
 have hel : (∀ i,i < m.sung.length → inB (el m.sung i) 0 59 = true) ↔ ∀ x ∈ m.sung,inB x 0 59 = true := by
  constructor
  ·intro h x hx
   obtain ⟨j,hj,rfl⟩ := List.mem_iff_getElem.1 hx
   have := h j hj
   simpa [el,hj] using this
  ·intro h i hi
   exact h _ (el_mem hi)
 rw [Bool.eq_iff_iff]
 unfold okMb okSg susB
 simp only [Bool.and_eq_true,List.all_eq_true,decide_eq_true_eq,List.mem_range,Bool.or_eq_true,Bool.not_eq_true']
 rw [show (60 : Int) - 1 = 59 from rfl]
 constructor
 ·rintro ⟨h1,h2,h3,h4,h5,h6,h7,h8,h9,h10⟩
  refine ⟨⟨h1,h2,h3⟩,h6,⟨h8,h9⟩,⟨hel.1 (fun i hi => (h7 i hi).1),h5⟩, ?_⟩
  split
  ·rename_i hd
   rcases h10 with h | h
   ·rw [hd] at h;cases h
   ·exact h
  ·rename_i hd
   simp only [List.all_eq_true,List.mem_range,decide_eq_true_eq]
   exact fun i hi => ((h7 i hi).2).resolve_left hd
 ·rintro ⟨⟨h1,h2,h3⟩,h6,⟨h8,h9⟩,⟨h7,h5⟩,h10⟩
  refine ⟨h1,h2,h3, ?_,h5,h6,fun i hi => ⟨hel.2 h7 i hi, ?_⟩,h8,h9, ?_⟩
  ·refine ris_short (k := 60) (ris_iff.1 h5) (fun x hx => ?_)
   have := inB7.1 (h7 x hx)
   omega
  ·by_cases hd : m.done = true
   ·exact .inl hd
   ·rw [if_neg hd] at h10
    simp only [List.all_eq_true,List.mem_range,decide_eq_true_eq] at h10
    exact .inr (h10 i hi)
  ·by_cases hd : m.done = true
   ·rw [if_pos hd] at h10;exact .inr h10
   ·exact .inl (by simpa using hd)
theorem MbP.below {w w' : World} {A : Ma} {m : Mb} (h : MbP w A m) (hb : Below w.heap.size w w') : MbP w' A m := by
 obtain ⟨f,hf⟩ := h.own
 exact ⟨⟨f,owL_below hf hb⟩,h.fit,h.i64,h.sz⟩
theorem sum_mem_le {F : Rw → Nat} {r : Rw} : ∀ {R : List Rw},r ∈ R → F r ≤ (R.map F).sum
 | x :: R,h => by
  rw [List.map_cons,List.sum_cons]
  rcases List.mem_cons.1 h with h | h
  ·rw [h];omega
  ·have := sum_mem_le (F := F) h;omega
theorem szRw_mem {m : Mb} {r : Rw} (h : r ∈ m.rows) : szRw r ≤ szMb m := by
 have := sum_mem_le (F := szRw) h
 unfold szMb szRs szP
 rw [List.take_length]
 omega
theorem MbP.row {w : World} {A : Ma} {m : Mb} (h : MbP w A m) {k : Nat} (hk : k < m.rows.length) : ∃ g off Ak,A.ra = some ⟨g,off,none⟩ ∧ C8 w g (off + k * 8) (.int .i64 (rowN m.rows k).ver) (.slice Ak.ta (rowN m.rows k).txt.length Ak.tc) (.slice Ak.ga (rowN m.rows k).got.length Ak.gc) (.slice Ak.sa (rowN m.rows k).sus.length Ak.sc) (.bool (rowN m.rows k).wed) (.bool (rowN m.rows k).rdy) (.int .i64 (rowN m.rows k).by_) (.slice Ak.ma (rowN m.rows k).trm.length Ak.mc) ∧ RwP w Ak (rowN m.rows k) := by
 obtain ⟨f,hf⟩ := h.own
 obtain ⟨f1,f2,o1,o2,_,_⟩ := owL_two hf
 obtain ⟨g,off,f3,hra,_,_,⟨vs,hpc,hov,_⟩,_⟩ := ow_elF rw8_len (by omega) o1 (rowN_at hk)
 obtain ⟨Ak,rfl,hl⟩ := rw8_ow hov
 have hl8 : (rwC Ak (rowN m.rows k)).toList.length = 8 := rfl
 have c := hpc.cell
 have hfit : FitR (rowN m.rows k) := h.fit.1 _ (rowN_mem hk)
 have hs := szRw_mem (rowN_mem hk)
 exact ⟨g,off,Ak,hra,⟨⟨c 0 (by rw [hl8];omega),c 1 (by rw [hl8];omega),c 2 (by rw [hl8];omega),c 3 (by rw [hl8];omega)⟩,c 4 (by rw [hl8];omega),c 5 (by rw [hl8];omega),c 6 (by rw [hl8];omega),c 7 (by rw [hl8];omega)⟩,it_rwp (owL_it hl (lo := 0) (fun b _ => Nat.zero_le b)) hfit (h.i64.2.2 _ (rowN_mem hk)) (Nat.le_trans hs h.sz)⟩
theorem MbP.mbs {w : World} {A : Ma} {m : Mb} (h : MbP w A m) : MbS w A m := by
 obtain ⟨f,hf⟩ := h.own
 exact mbs_of (owL_vw hf) h.fit
def fromN (s : List Int) : Bool := (List.range s.length).all (fun i => decide (el s i = (i : Int)))
set_option maxRecDepth 100000 in
set_option maxHeartbeats 800000 in
theorem cfn_any (a : Option Addr) (cap : Nat) (xs : List Int) (w : World) (hv : Vec w a xs.length xs) (hm : xs.length ≤ maxLen) :
  Calls Try.prog 145 #[.slice a xs.length cap] w fun e w' => e = .returned (.bool (fromN xs)) ∧ w' = w := by
 obtain ⟨_,_,hc⟩ := hv
 unfold maxLen at hm
 have HT : Hid ((∀ j,j < xs.length → el xs j = (j : Int)) → fromN xs = true) := fun h => by
  simp only [Hid,fromN,List.all_eq_true,List.mem_range,decide_eq_true_eq]
  exact h
 have HF : Hid (∀ k,k < xs.length → el xs k ≠ (k : Int) → fromN xs = false) := fun k hk h => by
  rw [Bool.eq_false_iff]
  intro hq
  simp only [fromN,List.all_eq_true,List.mem_range,decide_eq_true_eq] at hq
  exact h (hq k hk)
 generalize fromN xs = Q at *
 go_enter Try.func145,Try.ntmps145
 go_wp2
 go_loopw [7] (fun i wr => ∃ k : Nat,k ≤ xs.length ∧ i = .int .i64 k ∧ (∀ j,j < k → el xs j = (j : Int)) ∧ wr = w) (fun i _ => xs.length - (intOf i).toNat)
 case atStart => exact ⟨0,Nat.zero_le _,rfl,fun j hj => by omega,rfl⟩
 case round =>
  obtain ⟨k,hk,rfl,hall,rfl⟩ := hrel
  have HA : Hid (∀ j,j < k → el xs j = (j : Int)) := hall
  clear hall
  by_cases hlt : k < xs.length
  ·rcases hc with h0 | ⟨b,off,rfl,hc⟩
   ·omega
   have hck := hc k hlt
   have k1 : (k : Int) < (xs.length : Int) := by omega
   have k0 : (0 : Int) ≤ (k : Int) := by omega
   by_cases he : el xs k = (k : Int)
   ·have HK : Hid (∀ j,j < k + 1 → el xs j = (j : Int)) := fun j hj => by
     by_cases e : j = k
     ·subst e;exact he
     ·exact HA.out j (by omega)
    have e1 : ((el xs k) != (k : Int)) = false := by simp [he]
    clear he hc
    generalize el xs k = x at *
    go_wp2
    go_roundw
    case rel => exact ⟨k + 1,by omega,by go_num,HK.out,by first | rfl | trivial⟩
    case measure => simp [intOf];omega
   ·have HK : Hid (Q = false) := HF.out k hlt he
    have e1 : ((el xs k) != (k : Int)) = true := by simp [he]
    clear he hc
    generalize el xs k = x at *
    go_wp2
    go_ret
    exact ⟨ret_bool (by rw [HK.out]),by first | rfl | trivial⟩
  ·have k1 : ¬ ((k : Int) < (xs.length : Int)) := by omega
   obtain rfl : k = xs.length := by omega
   have HK : Hid (Q = true) := HT.out HA.out
   clear hc
   go_wp2
   go_ret
   exact ⟨ret_bool (by rw [HK.out]),by first | rfl | trivial⟩
theorem okMb_1 {m : Mb} (h : (inB m.n 1 5 && (inB m.id 0 (m.n - 1) && decide ((m.rows.length : Int) = m.n))) = false) : okMb m = false := by rw [okMb_chk,h];rfl
theorem okMb_2 {m : Mb} {k : Nat} (hk : k < m.rows.length) (h : okRw (rowN m.rows k) m.n = false) : okMb m = false := by
 have : m.rows.all (fun r => okRw r m.n) = false := by
  rw [Bool.eq_false_iff]
  intro hq
  rw [List.all_eq_true.1 hq _ (rowN_mem hk)] at h
  cases h
 rw [okMb_chk,this]
 simp
theorem okMb_3 {m : Mb} (h : (decide (el m.own.got m.i = (m.own.txt.length : Int)) && decide (m.id ∉ m.own.sus)) = false) : okMb m = false := by rw [okMb_chk,h];simp
theorem okMb_4 {m : Mb} (h : susB m.sung 60 = false) : okMb m = false := by rw [okMb_chk,h];simp
theorem okMb_5 {m : Mb} (h1 : (inB m.n 1 5 && (inB m.id 0 (m.n - 1) && decide ((m.rows.length : Int) = m.n))) = true) (h2 : ∀ k,k < m.rows.length → okRw (rowN m.rows k) m.n = true) (h3 : (decide (el m.own.got m.i = (m.own.txt.length : Int)) && decide (m.id ∉ m.own.sus)) = true) (h4 : susB m.sung 60 = true) : okMb m = (if m.done = true then m.own.rdy else fromN m.sung) := by
 have : m.rows.all (fun r => okRw r m.n) = true := by
  rw [List.all_eq_true]
  intro r hr
  obtain ⟨k,hk,rfl⟩ := List.mem_iff_getElem.1 hr
  have := h2 k hk
  simpa [rowN,List.getD,hk] using this
 rw [okMb_chk,h1,this,h3,h4]
 rfl
set_option maxRecDepth 100000 in
set_option maxHeartbeats 1600000 in
theorem chk_any (A : Ma) (m : Mb) (w : World) (hv : MbP w A m) :
  Calls Try.prog 137 #[mbV A m] w fun e w' => ((okMb m = true ∧ e = .returned (.tuple #[])) ∨ (okMb m = false ∧ Gu e)) ∧ Below w.heap.size w w' := by
 have hmix := mixed17
 have hb0 := oneA16 w (.cells (mbC A m) 103)
 have hx0 := Bx.new w 103 (mbC A m)
 have h0 := hv.below hb0
 unfold mbV mbC at *
 generalize hWW : w.alloc (.cells #[.int .i64 m.id,.int .i64 m.n,.slice A.ra m.rows.length A.rc,.slice A.sa m.sung.length A.sc,.bool m.done] 103) = W at *
 have HB0 : Hid (Below w.heap.size w W) := hb0
 have HP : Hid (MbP W A m) := h0
 have HX : Hid (Bx W w.heap.size 103 #[.int .i64 m.id,.int .i64 m.n,.slice A.ra m.rows.length A.rc,.slice A.sa m.sung.length A.sc,.bool m.done]) := hx0
 obtain ⟨c0,c1,c2,c3,c4⟩ := Bx.r5 hx0
 have hsl := h0.mbs.ms
 have hrl := h0.mbs.mr
 unfold maxLen at hsl hrl
 clear hb0 h0 hx0 hv
 cases e1 : inB m.n 1 5 with
 | false =>
  have HZ : Hid (okMb m = false) := okMb_1 (by rw [e1];rfl)
  go_enter Try.func137,Try.ntmps137
  go_wp2_with (first | (go_at_call 84;refine (isRl_any _ _).mono ?_;rintro e w' ⟨rfl,hw'⟩;rw [hw',e1];clear hw') | (go_at_call 144;refine (wantF _).mono ?_;rintro e w' ⟨⟨T,v,rfl⟩,hw'⟩;rw [hw'];clear hw'))
  exact ⟨rfl,.inr ⟨HZ.out,_,_,rfl⟩,HB0.out⟩
 | true =>
 have hn5 := inB7.1 e1
 have hwn : wrap64 (m.n - 1) = m.n - 1 := by unfold wrap64;omega
 cases e2 : inB m.id 0 (m.n - 1) with
 | false =>
  have HZ : Hid (okMb m = false) := okMb_1 (by rw [e1,e2];rfl)
  go_enter Try.func137,Try.ntmps137
  go_wp2_with (first | (go_at_call 84;refine (isRl_any _ _).mono ?_;rintro e w' ⟨rfl,hw'⟩;rw [hw',e1];clear hw') | (go_at_call 114;refine (isW14_any _ _ _).mono ?_;rintro e w' ⟨rfl,hw'⟩;rw [hw',e2];clear hw') | (go_at_call 144;refine (wantF _).mono ?_;rintro e w' ⟨⟨T,v,rfl⟩,hw'⟩;rw [hw'];clear hw'))
  exact ⟨rfl,.inr ⟨HZ.out,_,_,rfl⟩,HB0.out⟩
 | true =>
 have hid := inB7.1 e2
 by_cases e3 : (m.rows.length : Int) = m.n
 case neg =>
  have HZ : Hid (okMb m = false) := okMb_1 (by rw [e1,e2,decide_eq_false e3];rfl)
  have e3' : ((m.rows.length : Int) == m.n) = false := by simpa using e3
  go_enter Try.func137,Try.ntmps137
  go_wp2_with (first | (go_at_call 84;refine (isRl_any _ _).mono ?_;rintro e w' ⟨rfl,hw'⟩;rw [hw',e1];clear hw') | (go_at_call 114;refine (isW14_any _ _ _).mono ?_;rintro e w' ⟨rfl,hw'⟩;rw [hw',e2];clear hw') | (go_at_call 144;refine (wantF _).mono ?_;rintro e w' ⟨⟨T,v,rfl⟩,hw'⟩;rw [hw'];clear hw'))
  exact ⟨rfl,.inr ⟨HZ.out,_,_,rfl⟩,HB0.out⟩
 have H1 : Hid ((inB m.n 1 5 && (inB m.id 0 (m.n - 1) && decide ((m.rows.length : Int) = m.n))) = true) := by rw [Hid,e1,e2,decide_eq_true e3];rfl
 have e3' : ((m.rows.length : Int) == m.n) = true := by simpa using e3
 have hRl : ∀ X,Calls Try.prog 84 #[.int .i64 m.n] X fun e w' => e = .returned (.bool true) ∧ w' = X := fun X => by
  have := isRl_any m.n X
  rw [e1] at this
  exact this
 have hWi : ∀ X,Calls Try.prog 114 #[.int .i64 m.id,.int .i64 (m.n - 1)] X fun e w' => e = .returned (.bool true) ∧ w' = X := fun X => by
  have := isW14_any m.id (m.n - 1) X
  rw [e2] at this
  exact this
 have HI : Hid (∃ i : Nat,m.id = (i : Int) ∧ i < m.rows.length ∧ m.i = i) := ⟨m.id.toNat,by omega,by omega,rfl⟩
 have HN : Hid (∃ n : Nat,m.n = (n : Int) ∧ m.rows.length = n ∧ 1 ≤ n ∧ n ≤ 5) := ⟨m.n.toNat,by omega,by omega,by omega,by omega⟩
 clear e1 e2 e3 hid
 go_enter Try.func137,Try.ntmps137
 go_wp2_with (first | (go_at_call 84;refine (hRl _).mono ?_;rintro e w' ⟨rfl,hw'⟩;rw [hw'];clear hw') | (go_at_call 114;refine (hWi _).mono ?_;rintro e w' ⟨rfl,hw'⟩;rw [hw'];clear hw') | (go_at_call 144;refine (wantT _).mono ?_;rintro e w' ⟨rfl,hw'⟩;rw [hw'];clear hw'))
 clear hRl hWi c0 c1 c2 c3 c4
 go_loopw [28] (fun v wr => ∃ k : Nat,k ≤ m.rows.length ∧ v = .int .i64 (k : Int) ∧ (∀ j,j < k → okRw (rowN m.rows j) m.n = true) ∧ Below W.heap.size W wr) (fun v _ => m.rows.length - (intOf v).toNat)
 case atStart => exact ⟨0,Nat.zero_le _,rfl,fun j hj => by omega,Below.refl _ _⟩
 case round =>
  obtain ⟨k,hk,rfl,hall,hbr⟩ := hrel
  have HA : Hid (∀ j,j < k → okRw (rowN m.rows j) m.n = true) := hall
  have HBr : Hid (Below W.heap.size W wr) := hbr
  obtain ⟨c0,c1,c2,c3,c4⟩ := Bx.r5 (HX.out.below hbr)
  by_cases hlt : k < m.rows.length
  ·obtain ⟨g,off,Ak,hra,⟨⟨d0,d1,d2,d3⟩,d4,d5,d6,d7⟩,hrp⟩ := (HP.out.below hbr).row hlt
   have HZ : Hid (okRw (rowN m.rows k) m.n = false → okMb m = false) := fun h => okMb_2 hlt h
   rw [hra] at *
   have k0 : (0 : Int) ≤ (k : Int) := by omega
   have k1 : (k : Int) < (m.rows.length : Int) := by omega
   have HK : Hid (okRw (rowN m.rows k) m.n = true → ∀ j,j < k + 1 → okRw (rowN m.rows j) m.n = true) := fun h j hj => by
    by_cases e : j = k
    ·subst e;exact h
    ·exact HA.out j (by omega)
   generalize rowN m.rows k = r at *
   have hbl := oneA16 wr (.cells #[.int .i64 r.ver,.slice Ak.ta r.txt.length Ak.tc,.slice Ak.ga r.got.length Ak.gc,.slice Ak.sa r.sus.length Ak.sc,.bool r.wed,.bool r.rdy,.int .i64 r.by_,.slice Ak.ma r.trm.length Ak.mc] 35)
   have hxr := Bx.new wr 35 #[.int .i64 r.ver,.slice Ak.ta r.txt.length Ak.tc,.slice Ak.ga r.got.length Ak.gc,.slice Ak.sa r.sus.length Ak.sc,.bool r.wed,.bool r.rdy,.int .i64 r.by_,.slice Ak.ma r.trm.length Ak.mc]
   have hRo := rowI_any Ak r m.n _ (hrp.below hbl)
   unfold rwV rwC at hRo
   have HBw : Hid (Below W.heap.size W (wr.alloc (.cells #[.int .i64 r.ver,.slice Ak.ta r.txt.length Ak.tc,.slice Ak.ga r.got.length Ak.gc,.slice Ak.sa r.sus.length Ak.sc,.bool r.wed,.bool r.rdy,.int .i64 r.by_,.slice Ak.ma r.trm.length Ak.mc] 35))) := HBr.out.trans (hbl.mono HBr.out.size)
   have c1' := (hbl.cell (World.block_lt_of_cell? _ _ c1)).trans c1
   obtain ⟨⟨x0,x1,x2,x3⟩,x4,x5,x6,x7⟩ := Bx.r8 hxr
   clear hrp hall hbl hxr
   go_upto_region 5 with fail
   generalize wr.alloc (.cells #[.int .i64 r.ver,.slice Ak.ta r.txt.length Ak.tc,.slice Ak.ga r.got.length Ak.gc,.slice Ak.sa r.sus.length Ak.sc,.bool r.wed,.bool r.rdy,.int .i64 r.by_,.slice Ak.ma r.trm.length Ak.mc] 35) = W5 at *
   clear c0 c1 c2 c3 c4 d0 d1 d2 d3 d4 d5 d6 d7
   cases hb : okRw r m.n with
   | false =>
    have HZ1 : Hid (okMb m = false) := HZ.out hb
    rw [hb] at hRo
    go_wp2_with (first | (go_at_call 35;refine hRo.mono ?_;rintro e w1 ⟨rfl,hb1⟩;have HB1 : Hid (Below w.heap.size w w1) := (HB0.out.trans (HBw.out.mono HB0.out.size)).trans (hb1.mono (HB0.out.trans (HBw.out.mono HB0.out.size)).size);clear hb1) | (go_at_call 144;refine (wantF _).mono ?_;rintro e w' ⟨⟨T,v,rfl⟩,hw'⟩;rw [hw'];clear hw'))
    exact ⟨rfl,.inr ⟨HZ1.out,_,_,rfl⟩,HB1.out⟩
   | true =>
    have HK1 := HK.out hb
    have HK2 : Hid (∀ j,j < k + 1 → okRw (rowN m.rows j) m.n = true) := HK1
    rw [hb] at hRo
    clear HK HK1
    go_wp2_with (first | (go_at_call 35;refine hRo.mono ?_;rintro e w1 ⟨rfl,hb1⟩;have HB1 : Hid (Below W.heap.size W w1) := HBw.out.trans (hb1.mono HBw.out.size);clear hb1) | (go_at_call 144;refine (wantT _).mono ?_;rintro e w' ⟨rfl,hw'⟩;rw [hw'];clear hw'))
    go_roundw
    case rel => exact ⟨k + 1,by omega,by go_num,HK2.out,HB1.out⟩
    case measure => simp [intOf];omega
  ·have k1 : ¬ ((k : Int) < (m.rows.length : Int)) := by omega
   obtain rfl : k = m.rows.length := by omega
   have H2 : Hid (∀ j,j < m.rows.length → okRw (rowN m.rows j) m.n = true) := HA.out
   obtain ⟨i,hi,hil,hmi⟩ := HI.out
   obtain ⟨n,hn,hln,hn1,hn5'⟩ := HN.out
   obtain ⟨g,off,Ak,hra,⟨⟨d0,d1,d2,d3⟩,d4,d5,d6,d7⟩,hrp⟩ := (HP.out.below hbr).row hil
   have hgl : i < (rowN m.rows i).got.length := by
    have := okRw_iff.1 (by rw [← hn];exact HA.out i hil : okRw (rowN m.rows i) (n : Int) = true)
    rw [this.gl];omega
   have HOwn : Hid (m.own = rowN m.rows i) := by rw [Hid,Mb.own,hmi]
   have i0 : (0 : Int) ≤ (i : Int) := by omega
   have i1 : (i : Int) < (m.rows.length : Int) := by omega
   have i2 : (i : Int) < ((rowN m.rows i).got.length : Int) := by omega
   have hsu : ∀ X,Below W.heap.size W X → Calls Try.prog 117 #[.slice A.sa m.sung.length A.sc,.int .i64 59] X fun e w' => e = .returned (.bool (susB m.sung 60)) ∧ w' = X := fun X hX => by
    have := rw14_any A.sa m.sung.length A.sc 60 m.sung X (HP.out.mbs.sung.below hX (Nat.le_refl _)) HP.out.mbs.ms
    rw [sus_row] at this
    exact this
   have hcf : ∀ X,Below W.heap.size W X → Calls Try.prog 145 #[.slice A.sa m.sung.length A.sc] X fun e w' => e = .returned (.bool (fromN m.sung)) ∧ w' = X := fun X hX => cfn_any A.sa A.sc m.sung X (HP.out.mbs.sung.below hX (Nat.le_refl _)) HP.out.mbs.ms
   have H3 : Hid ((decide (el (rowN m.rows i).got i = ((rowN m.rows i).txt.length : Int)) && decide ((i : Int) ∉ (rowN m.rows i).sus)) = false → okMb m = false) := fun h => okMb_3 (by rw [HOwn.out,hmi,hi];exact h)
   have H4 : Hid (susB m.sung 60 = false → okMb m = false) := okMb_4
   have H5 : Hid ((decide (el (rowN m.rows i).got i = ((rowN m.rows i).txt.length : Int)) && decide ((i : Int) ∉ (rowN m.rows i).sus)) = true → susB m.sung 60 = true → okMb m = (if m.done = true then (rowN m.rows i).rdy else fromN m.sung)) := fun h1 h2 => by
    have := okMb_5 H1.out H2.out (by rw [HOwn.out,hmi,hi];exact h1) h2
    rw [HOwn.out] at this
    exact this
   have hgc : ∀ X,Below wr.heap.size wr X → ∃ gb go,Ak.ga = some ⟨gb,go,none⟩ ∧ X.cell? ⟨gb,go + i,none⟩ = some (.int .i64 (el (rowN m.rows i).got i)) := fun X hX => by
    rcases (hrp.below hX).got.vec.2.2 with h | ⟨gb,go,e,h⟩
    ·omega
    ·exact ⟨gb,go,e,h i hgl⟩
   have hCon : ∀ X,Below wr.heap.size wr X → Calls Try.prog 138 #[.slice Ak.sa (rowN m.rows i).sus.length Ak.sc,.int .i64 (i : Int)] X fun e w' => e = .returned (.bool (decide ((i : Int) ∈ (rowN m.rows i).sus))) ∧ w' = X := fun X hX => con14_any Ak.sa Ak.sc (rowN m.rows i).sus (i : Int) X (hrp.below hX).sus.vec (hrp.below hX).rws.ms
   rw [hi] at c0
   rw [hra] at c2
   generalize hOK : okMb m = OK at *
   have HOk : Hid (okMb m = OK) := hOK
   clear hOK
   generalize rowN m.rows i = r at *
   generalize hge : el r.got i = gi at *
   generalize susB m.sung 60 = sb at *
   generalize fromN m.sung = fb at *
   have hbl := oneA16 wr (.cells #[.int .i64 r.ver,.slice Ak.ta r.txt.length Ak.tc,.slice Ak.ga r.got.length Ak.gc,.slice Ak.sa r.sus.length Ak.sc,.bool r.wed,.bool r.rdy,.int .i64 r.by_,.slice Ak.ma r.trm.length Ak.mc] 35)
   have hxr := Bx.new wr 35 #[.int .i64 r.ver,.slice Ak.ta r.txt.length Ak.tc,.slice Ak.ga r.got.length Ak.gc,.slice Ak.sa r.sus.length Ak.sc,.bool r.wed,.bool r.rdy,.int .i64 r.by_,.slice Ak.ma r.trm.length Ak.mc]
   have HXr : Hid (Bx (wr.alloc (.cells #[.int .i64 r.ver,.slice Ak.ta r.txt.length Ak.tc,.slice Ak.ga r.got.length Ak.gc,.slice Ak.sa r.sus.length Ak.sc,.bool r.wed,.bool r.rdy,.int .i64 r.by_,.slice Ak.ma r.trm.length Ak.mc] 35)) wr.heap.size 35 #[.int .i64 r.ver,.slice Ak.ta r.txt.length Ak.tc,.slice Ak.ga r.got.length Ak.gc,.slice Ak.sa r.sus.length Ak.sc,.bool r.wed,.bool r.rdy,.int .i64 r.by_,.slice Ak.ma r.trm.length Ak.mc]) := hxr
   have HBw : Hid (Below W.heap.size W (wr.alloc (.cells #[.int .i64 r.ver,.slice Ak.ta r.txt.length Ak.tc,.slice Ak.ga r.got.length Ak.gc,.slice Ak.sa r.sus.length Ak.sc,.bool r.wed,.bool r.rdy,.int .i64 r.by_,.slice Ak.ma r.trm.length Ak.mc] 35))) := HBr.out.trans (hbl.mono HBr.out.size)
   have HBl : Hid (Below wr.heap.size wr (wr.alloc (.cells #[.int .i64 r.ver,.slice Ak.ta r.txt.length Ak.tc,.slice Ak.ga r.got.length Ak.gc,.slice Ak.sa r.sus.length Ak.sc,.bool r.wed,.bool r.rdy,.int .i64 r.by_,.slice Ak.ma r.trm.length Ak.mc] 35))) := hbl
   have HMX : Hid (∀ X,Below W.heap.size W X → Bx X w.heap.size 103 #[.int .i64 m.id,.int .i64 m.n,.slice A.ra m.rows.length A.rc,.slice A.sa m.sung.length A.sc,.bool m.done]) := fun X h => HX.out.below h
   clear hrp hall hbl hxr HP HA hbr H1 H2 HOwn
   have hwl := HX.out.lt
   have hwr2 := HBr.out.size
   go_upto_region 8 with fail
   generalize wr.alloc (.cells #[.int .i64 r.ver,.slice Ak.ta r.txt.length Ak.tc,.slice Ak.ga r.got.length Ak.gc,.slice Ak.sa r.sus.length Ak.sc,.bool r.wed,.bool r.rdy,.int .i64 r.by_,.slice Ak.ma r.trm.length Ak.mc] 35) = W5 at *
   clear c0 c1 c2 c3 c4 d0 d1 d2 d3 d4 d5 d6 d7 hra
   have facts : ∀ X,Below W5.heap.size W5 X → Below W.heap.size W X ∧ Below w.heap.size w X := fun X h => ⟨HBw.out.trans (h.mono HBw.out.size),(HB0.out.trans (HBw.out.mono HB0.out.size)).trans (h.mono (HB0.out.trans (HBw.out.mono HB0.out.size)).size)⟩
   have HFa : Hid (∀ X,Below W5.heap.size W5 X → Below W.heap.size W X ∧ Below w.heap.size w X) := facts
   obtain ⟨⟨x0,x1,x2,x3⟩,x4,x5,x6,x7⟩ := Bx.r8 HXr.out
   obtain ⟨c0,c1,c2,c3,c4⟩ := Bx.r5 (HMX.out _ HBw.out)
   rw [hi] at c0
   obtain ⟨gb,go,hga,hgcell⟩ := hgc _ HBl.out
   rw [hga] at x2
   have T : ∀ {x v},W5.cell? x = some v → ∀ q : Bk W5,q.w.cell? x = some v := fun h q => (q.h.cell (World.block_lt_of_cell? _ _ h)).trans h
   have y0 := T c0
   have y1 := T x1
   have y2 := T x2
   have y3 := T x3
   have y4 := T hgcell
   have hCn : ∀ q : Bk W5,Calls Try.prog 138 #[.slice Ak.sa r.sus.length Ak.sc,.int .i64 (i : Int)] q.w fun e w' => e = .returned (.bool (decide ((i : Int) ∈ r.sus))) ∧ Below q.w.heap.size q.w w' := fun q => (hCon q.w (HBl.out.trans (q.h.mono HBl.out.size))).mono (fun e w' h => ⟨h.1,by rw [h.2];exact Below.refl _ _⟩)
   have HL : Hid (m.rows.length = n) := hln
   clear T x0 x1 x2 x3 x4 x5 x6 x7 c0 c1 c2 c3 c4 facts hCon hgc hga hgcell hln hi hmi
   by_cases e7 : gi = (r.txt.length : Int)
   case neg =>
    have HZ : Hid (OK = false) := H3.out (by rw [decide_eq_false e7];rfl)
    have e7' : (gi == (r.txt.length : Int)) = false := by simpa using e7
    clear e7 H3 H4 H5
    refine wp_region_quiet_tail (C := fun w' => ∃ p : Bk W5,w' = p.w) 18 hmix (by kernel_rfl) ⟨⟨W5.drewN 1,belowN (Below.refl _ _)⟩,rfl⟩ ?_
    simp only [List.take_succ_cons,List.take_zero]
    repeat (go_big_quiet_step ((first | (go_at_call 138;exact bk_call _ (hCn _)) | rfl)))
    refine wpQuiet_nil ?_
    intro wE hw'
    obtain ⟨⟨w11,hb11⟩,hw''⟩ := hw'
    have hwe : wE = w11 := hw''
    clear hw''
    subst hwe
    simp only [List.drop_succ_cons,List.drop_zero]
    have HB9 : Hid (Below w.heap.size w wE) := (HFa.out _ hb11).2
    clear y0 y1 y2 y3 y4 hb11
    go_wp2_with (go_at_call 144;refine (wantF _).mono ?_;rintro e w' ⟨⟨T,v,rfl⟩,hw'⟩;rw [hw'];clear hw')
    exact ⟨rfl,.inr ⟨HOk.out.trans HZ.out,_,_,rfl⟩,HB9.out⟩
   have e7' : (gi == (r.txt.length : Int)) = true := by simpa using e7
   by_cases e8 : (i : Int) ∈ r.sus
   ·have HZ : Hid (OK = false) := H3.out (by rw [decide_eq_true e7,decide_eq_false (by simpa using e8)];rfl)
    rw [decide_eq_true e8] at hCn
    clear e7 H3 H4 H5 e8
    refine wp_region_quiet_tail (C := fun w' => ∃ p : Bk W5,w' = p.w) 18 hmix (by kernel_rfl) ⟨⟨W5.drewN 1,belowN (Below.refl _ _)⟩,rfl⟩ ?_
    simp only [List.take_succ_cons,List.take_zero]
    repeat (go_big_quiet_step ((first | (go_at_call 138;exact bk_call _ (hCn _)) | rfl)))
    refine wpQuiet_nil ?_
    intro wE hw'
    obtain ⟨⟨w11,hb11⟩,hw''⟩ := hw'
    have hwe : wE = w11 := hw''
    clear hw''
    subst hwe
    simp only [List.drop_succ_cons,List.drop_zero]
    have HB9 : Hid (Below w.heap.size w wE) := (HFa.out _ hb11).2
    clear y0 y1 y2 y3 y4 hb11
    go_wp2_with (go_at_call 144;refine (wantF _).mono ?_;rintro e w' ⟨⟨T,v,rfl⟩,hw'⟩;rw [hw'];clear hw')
    exact ⟨rfl,.inr ⟨HOk.out.trans HZ.out,_,_,rfl⟩,HB9.out⟩
   have HZ5 : Hid (sb = true → OK = (if m.done = true then r.rdy else fb)) := H5.out (by rw [decide_eq_true e7,decide_eq_true e8];rfl)
   rw [decide_eq_false e8] at hCn
   clear e7 H3 H5 e8
   refine wp_region_quiet_tail (C := fun w' => ∃ p : Bk W5,w' = p.w) 18 hmix (by kernel_rfl) ⟨⟨W5.drewN 1,belowN (Below.refl _ _)⟩,rfl⟩ ?_
   simp only [List.take_succ_cons,List.take_zero]
   repeat (go_big_quiet_step ((first | (go_at_call 138;exact bk_call _ (hCn _)) | rfl)))
   refine wpQuiet_nil ?_
   intro wE hw'
   obtain ⟨⟨w11,hb11⟩,hw''⟩ := hw'
   have hwe : wE = w11 := hw''
   clear hw''
   subst hwe
   simp only [List.drop_succ_cons,List.drop_zero]
   have HB9 : Hid (Below w.heap.size w wE) := (HFa.out _ hb11).2
   have hBW := (HFa.out _ hb11).1
   have hsu9 := hsu _ hBW
   have hcf9 := hcf _ hBW
   obtain ⟨c0,c1,c2,c3,c4⟩ := Bx.r5 (HMX.out _ hBW)
   obtain ⟨⟨x0,x1,x2,x3⟩,x4,x5,x6,x7⟩ := Bx.r8 (HXr.out.below hb11)
   clear y0 y1 y2 y3 y4 hb11 hBW hCn hsu hcf
   cases sb with
   | false =>
    have HZ : Hid (OK = false) := H4.out rfl
    go_wp2_with (first | (go_at_call 117;refine hsu9.mono ?_;rintro e w' ⟨rfl,hw'⟩;rw [hw'];clear hw') | (go_at_call 144;first | (refine (wantT _).mono ?_;rintro e w' ⟨rfl,hw'⟩;rw [hw'];clear hw') | (refine (wantF _).mono ?_;rintro e w' ⟨⟨T,v,rfl⟩,hw'⟩;rw [hw'];clear hw')))
    exact ⟨rfl,.inr ⟨HOk.out.trans HZ.out,_,_,rfl⟩,HB9.out⟩
   | true =>
    have HZ := HZ5.out rfl
    have HZ6 : Hid (OK = (if m.done = true then r.rdy else fb)) := HZ
    clear HZ HZ5 H4
    cases hd : m.done with
    | true =>
     rw [hd] at c4
     cases hr : r.rdy with
     | true =>
      have HZ : Hid (OK = true) := by rw [Hid,HZ6.out,hd,hr];rfl
      rw [hr] at x5
      clear hd hr
      go_wp2_with (first | (go_at_call 117;refine hsu9.mono ?_;rintro e w' ⟨rfl,hw'⟩;rw [hw'];clear hw') | (go_at_call 144;refine (wantT _).mono ?_;rintro e w' ⟨rfl,hw'⟩;rw [hw'];clear hw'))
      first | go_end0 | go_ret
      exact ⟨.inl ⟨HOk.out.trans HZ.out,rfl⟩,HB9.out⟩
     | false =>
      have HZ : Hid (OK = false) := by rw [Hid,HZ6.out,hd,hr];rfl
      rw [hr] at x5
      clear hd hr
      go_wp2_with (first | (go_at_call 117;refine hsu9.mono ?_;rintro e w' ⟨rfl,hw'⟩;rw [hw'];clear hw') | (go_at_call 144;first | (refine (wantT _).mono ?_;rintro e w' ⟨rfl,hw'⟩;rw [hw'];clear hw') | (refine (wantF _).mono ?_;rintro e w' ⟨⟨T,v,rfl⟩,hw'⟩;rw [hw'];clear hw')))
      exact ⟨rfl,.inr ⟨HOk.out.trans HZ.out,_,_,rfl⟩,HB9.out⟩
    | false =>
     rw [hd] at c4
     cases fb with
     | true =>
      have HZ : Hid (OK = true) := by rw [Hid,HZ6.out,hd];rfl
      clear hd
      go_wp2_with (first | (go_at_call 117;refine hsu9.mono ?_;rintro e w' ⟨rfl,hw'⟩;rw [hw'];clear hw') | (go_at_call 145;refine hcf9.mono ?_;rintro e w' ⟨rfl,hw'⟩;rw [hw'];clear hw') | (go_at_call 144;refine (wantT _).mono ?_;rintro e w' ⟨rfl,hw'⟩;rw [hw'];clear hw'))
      first | go_end0 | go_ret
      exact ⟨.inl ⟨HOk.out.trans HZ.out,rfl⟩,HB9.out⟩
     | false =>
      have HZ : Hid (OK = false) := by rw [Hid,HZ6.out,hd];rfl
      clear hd
      go_wp2_with (first | (go_at_call 117;refine hsu9.mono ?_;rintro e w' ⟨rfl,hw'⟩;rw [hw'];clear hw') | (go_at_call 145;refine hcf9.mono ?_;rintro e w' ⟨rfl,hw'⟩;rw [hw'];clear hw') | (go_at_call 144;first | (refine (wantT _).mono ?_;rintro e w' ⟨rfl,hw'⟩;rw [hw'];clear hw') | (refine (wantF _).mono ?_;rintro e w' ⟨⟨T,v,rfl⟩,hw'⟩;rw [hw'];clear hw')))
      exact ⟨rfl,.inr ⟨HOk.out.trans HZ.out,_,_,rfl⟩,HB9.out⟩
set_option maxRecDepth 100000 in
set_option maxHeartbeats 800000 in
theorem memI_any (A : Ma) (m : Mb) (w : World) (hv : MbP w A m) :
  Calls Try.prog 127 #[mbV A m] w fun e w' => e = .returned (.bool (okMb m)) ∧ Below w.heap.size w w' := by
 have hmf : ∀ (fn : Fn) (first cap : Array Value) (w : World),(Instr.makeFunc fn first cap).run Try.prog w = .ok (.func fn first cap) w := fun _ _ _ _ => rfl
 have hb0 := oneA16 w (.cells (mbC A m) 103)
 have hx0 := Bx.new w 103 (mbC A m)
 have h0 := hv.below hb0
 have hb1 := oneA16 (w.alloc (.cells (mbC A m) 103)) (.cells #[.bool false] 4)
 have hT := told_any 137 #[mbV A m] #[] (w.alloc (.cells (mbC A m) 103)) (fun b X => b = okMb m ∧ Below ((w.alloc (.cells (mbC A m) 103)).alloc (.cells #[.bool false] 4)).heap.size ((w.alloc (.cells (mbC A m) 103)).alloc (.cells #[.bool false] 4)) X) (fun _ _ => enters_of Try.func137 (by kernel_rfl) rfl _ _) ((chk_any A m _ (h0.below hb1)).mono (fun e w' ⟨h1,h2⟩ => by
  rcases h1 with ⟨h,h1⟩ | ⟨h,h1⟩
  ·exact .inl ⟨h1,h.symm,h2⟩
  ·exact .inr ⟨h1,h.symm,h2⟩)) (fun b X h => (Bx.new _ _ _).below h.2)
 have hF : ∀ e w',(∃ b X,e = Ending.returned (.bool b) ∧ (b = okMb m ∧ Below ((w.alloc (.cells (mbC A m) 103)).alloc (.cells #[.bool false] 4)).heap.size ((w.alloc (.cells (mbC A m) 103)).alloc (.cells #[.bool false] 4)) X) ∧ Wrt (fun x => x = (w.alloc (.cells (mbC A m) 103)).heap.size) X w') → e = .returned (.bool (okMb m)) ∧ Below w.heap.size w w' := by
  rintro e w' ⟨b,X,rfl,⟨rfl,h1⟩,h2⟩
  have hs := hb0.size
  have hbX := (hb0.trans (hb1.mono hb0.size)).trans (h1.mono (hb0.trans (hb1.mono hb0.size)).size)
  exact ⟨rfl,h2.below hbX hbX.size (fun b e => by omega)⟩
 have hT2 := hT.mono hF
 obtain ⟨c0,c1,c2,c3,c4⟩ := Bx.r5 hx0
 clear hF hT hb1 h0 hx0 hb0 hv
 unfold mbV mbC at *
 generalize okMb m = OK at *
 generalize hWW : w.alloc (.cells #[.int .i64 m.id,.int .i64 m.n,.slice A.ra m.rows.length A.rc,.slice A.sa m.sung.length A.sc,.bool m.done] 103) = W at *
 go_enter Try.func127,Try.ntmps127
 go_wp2_with (go_at_call 136;refine hT2.mono ?_;rintro e w1 ⟨rfl,hb1⟩;have HB1 : Hid (Below w.heap.size w w1) := hb1;clear hb1)
 go_ret
 exact ⟨rfl,HB1.out⟩
end Go.Proofs.Ytlnmdfgcpfbleaa
namespace Go.Proofs.Ytlnmdfgcpfbleaa
set_option linter.unusedVariables false
set_option linter.unusedSimpArgs false
open Go.RowKit Go.Sort
def belN (n : Int) (xs : List Int) : Bool := (List.range xs.length).all (fun i => inB (el xs i) 0 (n - 1) && decide (el xs i ∉ xs.take i))
theorem belN_two (n f t : Int) : belN n [f,t] = (inB f 0 (n - 1) && (inB t 0 (n - 1) && decide (f ≠ t))) := by
 have e : List.range [f,t].length = [0,1] := rfl
 rw [belN,e]
 simp [el,eq_comm]
theorem take_in {a : Option Addr} {n c j : Nat} (ha : a ≠ none) (hj : j ≤ n) (hc : n ≤ c) (hm : c ≤ maxLen) (X : World) :
  (Instr.slice 24 (.slice a n c) none (some (.int .i64 (j : Int))) none).run Try.prog X = .ok (.slice a j c) X := by
 obtain ⟨i0,hi0,hz0,hz1,hz2⟩ := info_parts2n Try.info2n
 unfold maxLen at hm
 have hs : (Instr.slice 24 (.slice a n c) none (some (.int .i64 (j : Int))) none).run Try.prog X = .ok (sliced a 0 j c 1) X := by
  rw [run_slice_h X 24 a n c (by kernel_rfl) .i64 (j : Int) (by omega) (by omega)]
  rw [show Try.prog.elem 24 = 2 by kernel_rfl]
  rw [run_sizeOf X hi0,show Try.prog.cellsOf 2 = 1 by kernel_rfl]
  simp [Result.andThen]
 rw [hs]
 have e : (if c = 0 then a else a.map (·.add (0 * 1))) = a := by
  split
  ·rfl
  ·cases a with
   | none => exact absurd rfl ha
   | some p => simp [Addr.add]
 simp only [sliced,e,Nat.sub_zero]
set_option maxHeartbeats 800000 in
theorem anb_any (n : Int) (b off c : Nat) (xs : List Int) (w : World) (hv : Vec w (some ⟨b,off,none⟩) xs.length xs) (hl : xs.length ≤ 100) (hc : xs.length ≤ c) (hm : c ≤ maxLen) (hn : -1000000 ≤ n ∧ n ≤ 1000000) :
  Calls Try.prog 128 #[.int .i64 n,.slice (some ⟨b,off,none⟩) xs.length c] w fun e w' => e = .returned (.bool (belN n xs)) ∧ w' = w := by
 have HV : Hid (Vec w (some ⟨b,off,none⟩) xs.length xs) := hv
 have hw : wrap64 (n - 1) = n - 1 := by unfold wrap64;omega
 have hsl := fun (j : Nat) (hj : j ≤ xs.length) (X : World) => take_in (a := some ⟨b,off,none⟩) (n := xs.length) (c := c) (j := j) (by simp) hj hc hm X
 have HSl : Hid (∀ (j : Nat),j ≤ xs.length → ∀ X : World,(Instr.slice 24 (.slice (some ⟨b,off,none⟩) xs.length c) none (some (.int .i64 (j : Int))) none).run Try.prog X = .ok (.slice (some ⟨b,off,none⟩) j c) X) := hsl
 have HC : Hid (∀ j,j < xs.length → Calls Try.prog 138 #[.slice (some ⟨b,off,none⟩) j c,.int .i64 (el xs j)] w fun e w' => e = .returned (.bool (decide (el xs j ∈ xs.take j))) ∧ w' = w) := fun j hj => by
  have e : (xs.take j).length = j := by rw [List.length_take];omega
  have hvt : Vec w (some ⟨b,off,none⟩) (xs.take j).length (xs.take j) := by
   refine ⟨rfl,fun x hx => hv.2.1 x (List.mem_of_mem_take hx),.inr ⟨b,off,rfl,fun k hk => ?_⟩⟩
   rcases hv.2.2 with h0 | ⟨b',o',ee,hcell⟩
   ·omega
   ·cases ee
    rw [hcell k (by omega)]
    simp [el,List.getD,show k < j by omega]
  have := con14_any (some ⟨b,off,none⟩) c (xs.take j) (el xs j) w hvt (by unfold maxLen;omega)
  rw [e] at this
  exact this
 clear hv hsl
 go_enter Try.func128,Try.ntmps128
 go_wp2
 go_loop [9] (fun i => ∃ k : Nat,k ≤ xs.length ∧ i = .int .i64 (k : Int) ∧ Hid (∀ j,j < k → (inB (el xs j) 0 (n - 1) && decide (el xs j ∉ xs.take j)) = true)) (fun i => xs.length - (intOf i).toNat)
 case atStart => exact ⟨0,Nat.zero_le _,rfl,fun j hj => by omega⟩
 case round =>
  obtain ⟨k,hk,rfl,HA⟩ := hrel
  by_cases hlt : k < xs.length
  ·rcases HV.out.2.2 with h0 | ⟨b',o',ee,hcell⟩
   ·omega
   cases ee
   have hck := hcell k hlt
   have k1 : (k : Int) < (xs.length : Int) := by omega
   have k0 : (0 : Int) ≤ (k : Int) := by omega
   have hT := HSl.out k hk
   have hCk := HC.out k hlt
   have hI : ∀ z,z = n - 1 → Calls Try.prog 114 #[.int .i64 (el xs k),.int .i64 z] w fun e w' => e = .returned (.bool (inB (el xs k) 0 (n - 1))) ∧ w' = w := fun z hz => by rw [hz];exact isW14_any _ _ w
   have HF : Hid ((inB (el xs k) 0 (n - 1) && decide (el xs k ∉ xs.take k)) = false → belN n xs = false) := fun h => by
    rw [belN,List.all_eq_false]
    exact ⟨k,List.mem_range.2 hlt,by rw [h];decide⟩
   have HT : Hid ((inB (el xs k) 0 (n - 1) && decide (el xs k ∉ xs.take k)) = true → ∀ j,j < k + 1 → (inB (el xs j) 0 (n - 1) && decide (el xs j ∉ xs.take j)) = true) := fun h j hj => by
    rcases Nat.lt_succ_iff_lt_or_eq.1 hj with h1 | h1
    ·exact HA.out j h1
    ·rw [h1];exact h
   clear hcell
   have hd : decide (el xs k ∉ xs.take k) = !decide (el xs k ∈ xs.take k) := by simp
   rw [hd] at HF HT
   clear hd
   generalize decide (el xs k ∈ xs.take k) = q at *
   generalize inB (el xs k) 0 (n - 1) = p at *
   generalize el xs k = x at *
   cases p with
   | false =>
    have HZ : Hid (belN n xs = false) := HF.out rfl
    clear HF HT
    go_wp2_with (go_at_call 114;refine (hI _ (by first | rfl | exact hw)).mono ?_;rintro e w' ⟨rfl,hw'⟩;rw [hw'];clear hw')
    go_ret
    exact ⟨ret_bool (by rw [HZ.out]),rfl⟩
   | true =>
    cases q with
    | true =>
     have HZ : Hid (belN n xs = false) := HF.out rfl
     clear HF HT
     go_wp2_with (first | (go_at_call 114;refine (hI _ (by first | rfl | exact hw)).mono ?_;rintro e w' ⟨rfl,hw'⟩;rw [hw'];clear hw') | (go_at_call 138;refine hCk.mono ?_;rintro e w' ⟨rfl,hw'⟩;rw [hw'];clear hw'))
     go_ret
     exact ⟨ret_bool (by rw [HZ.out]),rfl⟩
    | false =>
     have HZ : Hid _ := HT.out rfl
     clear HF HT
     go_wp2_with (first | (go_at_call 114;refine (hI _ (by first | rfl | exact hw)).mono ?_;rintro e w' ⟨rfl,hw'⟩;rw [hw'];clear hw') | (go_at_call 138;refine hCk.mono ?_;rintro e w' ⟨rfl,hw'⟩;rw [hw'];clear hw'))
     go_round
     case rel => exact ⟨k + 1,by omega,by go_num,HZ⟩
     case measure => simp [intOf];omega
  ·have k1 : ¬ ((k : Int) < (xs.length : Int)) := by omega
   have HZ : Hid (belN n xs = true) := by
    rw [Hid,belN,List.all_eq_true]
    intro j hj
    exact HA.out j (by have := List.mem_range.1 hj;omega)
   go_wp2
   go_ret
   exact ⟨ret_bool (by rw [HZ.out]),rfl⟩
theorem GrP.below {w w' : World} {A : Ga} {g : Gr} (h : GrP w A g) (hb : Below w.heap.size w w') : GrP w' A g := by
 obtain ⟨f,hf⟩ := h.own
 exact ⟨⟨f,owL_below hf hb⟩,h.fit,h.i64,h.sz⟩
theorem GrP.grs {w : World} {A : Ga} {g : Gr} (h : GrP w A g) : GrS w A g := by
 obtain ⟨f,hf⟩ := h.own
 exact grs_of (owL_vw hf) h.fit
theorem memN_mem {g : Gr} {k : Nat} (hk : k < g.mem.length) : memN g k ∈ g.mem := List.mem_of_getElem? (memN_at hk)
theorem mailN_mem {g : Gr} {k : Nat} (hk : k < g.mail.length) : mailN g k ∈ g.mail := List.mem_of_getElem? (mailN_at hk)
theorem szMb_mem {g : Gr} {m : Mb} (h : m ∈ g.mem) : szMb m ≤ szGr g := by
 obtain ⟨k,hk,rfl⟩ := List.mem_iff_getElem.1 h
 have h1 := zPm_next (R := g.mem) hk
 have h2 := zPm_mono (R := g.mem) (show k + 1 ≤ g.mem.length by omega)
 have e : mbN g.mem k = g.mem[k] := by simp [mbN,List.getD,hk]
 rw [e] at h1
 unfold szGr szMs
 omega
theorem szMl_mem {g : Gr} {x : Ml} (h : x ∈ g.mail) : szRw x.row ≤ szGr g := by
 obtain ⟨k,hk,rfl⟩ := List.mem_iff_getElem.1 h
 have h1 := zPl_next (R := g.mail) hk
 have h2 := zPl_mono (R := g.mail) (show k + 1 ≤ g.mail.length by omega)
 have e : mlN g.mail k = g.mail[k] := by simp [mlN,List.getD,hk]
 rw [e] at h1
 have h3 : szMl g.mail[k] = szRw g.mail[k].row := rfl
 unfold szGr szLs
 omega
theorem GrP.member {w : World} {A : Ga} {g : Gr} (h : GrP w A g) {k : Nat} (hk : k < g.mem.length) : ∃ b off Ak,A.ma = some ⟨b,off,none⟩ ∧ C5 w b (off + k * 5) (.int .i64 (memN g k).id) (.int .i64 (memN g k).n) (.slice Ak.ra (memN g k).rows.length Ak.rc) (.slice Ak.sa (memN g k).sung.length Ak.sc) (.bool (memN g k).done) ∧ MbP w Ak (memN g k) := by
 obtain ⟨f,hf⟩ := h.own
 obtain ⟨u1,us1,f1,f2,e,o1,_,_,_⟩ := hf
 cases e
 obtain ⟨b,off,f3,hra,_,_,⟨vs,hpc,hov,_⟩,_⟩ := ow_elF mb5_len (by omega) o1 (memN_at hk)
 obtain ⟨Ak,rfl,hl⟩ := mb5_ow hov
 have hl5 : (mbC Ak (memN g k)).toList.length = 5 := rfl
 have c := hpc.cell
 exact ⟨b,off,Ak,hra,⟨c 0 (by rw [hl5];omega),c 1 (by rw [hl5];omega),c 2 (by rw [hl5];omega),c 3 (by rw [hl5];omega),c 4 (by rw [hl5];omega)⟩,⟨f3,hl⟩,h.fit.1 _ (memN_mem hk),h.i64.1 _ (memN_mem hk),Nat.le_trans (szMb_mem (memN_mem hk)) h.sz⟩
theorem GrP.letter {w : World} {A : Ga} {g : Gr} (h : GrP w A g) {k : Nat} (hk : k < g.mail.length) : ∃ b off Ak,A.la = some ⟨b,off,none⟩ ∧ w.cell? ⟨b,off + k * 10,none⟩ = some (.int .i64 (mailN g k).fr) ∧ w.cell? ⟨b,off + k * 10 + 1,none⟩ = some (.int .i64 (mailN g k).to) ∧ C8 w b (off + k * 10 + 2) (.int .i64 (mailN g k).row.ver) (.slice Ak.ta (mailN g k).row.txt.length Ak.tc) (.slice Ak.ga (mailN g k).row.got.length Ak.gc) (.slice Ak.sa (mailN g k).row.sus.length Ak.sc) (.bool (mailN g k).row.wed) (.bool (mailN g k).row.rdy) (.int .i64 (mailN g k).row.by_) (.slice Ak.ma (mailN g k).row.trm.length Ak.mc) ∧ RwP w Ak (mailN g k).row := by
 obtain ⟨f,hf⟩ := h.own
 obtain ⟨u1,us1,f1,f2,e,_,hf2,_,_⟩ := hf
 cases e
 obtain ⟨u2,us2,f4,f5,e,_,hf3,_,_⟩ := hf2
 cases e
 obtain ⟨u3,us3,f6,f7,e,o3,_,_,_⟩ := hf3
 cases e
 obtain ⟨b,off,f3,hra,_,_,⟨vs,hpc,hov,_⟩,_⟩ := ow_elF ml10_len (by omega) o3 (mailN_at hk)
 obtain ⟨us0,rfl,hq0⟩ := owL_v' hov
 obtain ⟨us9,rfl,hq1⟩ := owL_v' hq0
 obtain ⟨Ak,rfl,hl⟩ := rw8_ow hq1
 have hl8 : (rwC Ak (mailN g k).row).toList.length = 8 := rfl
 have c := hpc.cell
 have c' : ∀ j,j < 8 → w.cell? ⟨b,off + k * 10 + 2 + j,none⟩ = (rwC Ak (mailN g k).row).toList[j]? := fun j hj => by
  have := c (j + 2) (by simp [hl8];omega)
  rw [show off + k * 10 + (j + 2) = off + k * 10 + 2 + j by omega] at this
  rw [this]
  simp [hl8,hj]
 have hx := mailN_mem hk
 refine ⟨b,off,Ak,hra,c 0 (by simp),c 1 (by simp),⟨⟨c' 0 (by omega),c' 1 (by omega),c' 2 (by omega),c' 3 (by omega)⟩,c' 4 (by omega),c' 5 (by omega),c' 6 (by omega),c' 7 (by omega)⟩,it_rwp (owL_it hl (lo := 0) (fun b _ => Nat.zero_le b)) (h.fit.2 _ hx) (h.i64.2 _ hx).2.2 (Nat.le_trans (szMl_mem hx) h.sz)⟩
end Go.Proofs.Ytlnmdfgcpfbleaa
namespace Go.Proofs.Ytlnmdfgcpfbleaa
set_option linter.unusedVariables false
set_option linter.unusedSimpArgs false
open Go.RowKit Go.Sort
theorem Bx.r10p {w : World} {B : Nat} {T : TypeId} {x0 x1 x2 x3 x4 x5 x6 x7 x8 x9 : Value} (h : Bx w B T #[x0,x1,x2,x3,x4,x5,x6,x7,x8,x9]) : (w.cell? ⟨B,0,none⟩ = some x0 ∧ w.cell? ⟨B,1,none⟩ = some x1 ∧ w.cell? ⟨B,2,none⟩ = some x2 ∧ w.cell? ⟨B,3,none⟩ = some x3 ∧ w.cell? ⟨B,4,none⟩ = some x4) ∧ w.cell? ⟨B,5,none⟩ = some x5 ∧ w.cell? ⟨B,6,none⟩ = some x6 ∧ w.cell? ⟨B,7,none⟩ = some x7 ∧ w.cell? ⟨B,8,none⟩ = some x8 ∧ w.cell? ⟨B,9,none⟩ = some x9 :=
 ⟨⟨h.at 0 rfl,h.at 1 rfl,h.at 2 rfl,h.at 3 rfl,h.at 4 rfl⟩,h.at 5 rfl,h.at 6 rfl,h.at 7 rfl,h.at 8 rfl,h.at 9 rfl⟩
theorem okMl_split (x : Ml) (n : Int) : okMl x n = (belN n [x.fr,x.to] && okRw x.row n) := by
 rw [belN_two,okMl]
 cases inB x.fr 0 (n - 1) <;> cases inB x.to 0 (n - 1) <;> simp
theorem vec_pair (w : World) (x y : Int) (hx : I64v x) (hy : I64v y) : Vec (w.alloc (.cells #[.int .i64 x,.int .i64 y] 2)) (some ⟨w.heap.size,0,none⟩) [x,y].length [x,y] := by
 refine ⟨rfl,fun z hz => ?_,.inr ⟨w.heap.size,0,rfl,fun k hk => ?_⟩⟩
 ·rcases List.mem_cons.1 hz with h | h
  ·rw [h];exact hx
  ·rw [List.mem_singleton.1 h];exact hy
 ·have hb := Bx.new w 2 #[.int .i64 x,.int .i64 y]
  match k,hk with
  | 0,_ => exact hb.at 0 rfl
  | 1,_ => exact hb.at 1 rfl
set_option maxRecDepth 100000 in
set_option maxHeartbeats 3200000 in
theorem gokI_any (A : Ga) (g : Gr) (w : World) (hv : GrP w A g) :
  Calls Try.prog 98 #[grV A g] w fun e w' => e = .returned (.bool (okGr g)) ∧ Below w.heap.size w w' := by
 have hb0 := oneA16 w (.cells #[.slice A.ma g.mem.length A.mc,.slice A.ua g.up.length A.uc,.slice A.la g.mail.length A.lc] 61)
 have hx0 := Bx.new w 61 #[.slice A.ma g.mem.length A.mc,.slice A.ua g.up.length A.uc,.slice A.la g.mail.length A.lc]
 have HV : Hid (GrP (w.alloc (.cells #[.slice A.ma g.mem.length A.mc,.slice A.ua g.up.length A.uc,.slice A.la g.mail.length A.lc] 61)) A g) := hv.below hb0
 have HX : Hid (Bx (w.alloc (.cells #[.slice A.ma g.mem.length A.mc,.slice A.ua g.up.length A.uc,.slice A.la g.mail.length A.lc] 61)) w.heap.size 61 #[.slice A.ma g.mem.length A.mc,.slice A.ua g.up.length A.uc,.slice A.la g.mail.length A.lc]) := hx0
 have HB0 : Hid (Below w.heap.size w (w.alloc (.cells #[.slice A.ma g.mem.length A.mc,.slice A.ua g.up.length A.uc,.slice A.la g.mail.length A.lc] 61))) := hb0
 have hI := isRl_any (g.mem.length : Int) (w.alloc (.cells #[.slice A.ma g.mem.length A.mc,.slice A.ua g.up.length A.uc,.slice A.la g.mail.length A.lc] 61))
 have hgs := hv.grs
 have hlm := hgs.lm
 have hlu := hgs.lu
 have hll := hgs.ll
 unfold maxLen at hlm hlu hll
 obtain ⟨c0,c1,c2⟩ := Bx.g3 hx0
 unfold grV grC
 clear hv hb0 hx0 hgs
 by_cases hn : inB (g.mem.length : Int) 1 5 = true
 rotate_left
 ·have hn' : inB (g.mem.length : Int) 1 5 = false := by simpa using hn
  have HZ : Hid (okGr g = false) := by
   by_cases h1 : 1 ≤ g.mem.length
   ·exact okGr_2 (fun h2 => hn (inB7.2 ⟨by omega,by omega⟩))
   ·exact okGr_1 h1
  rw [hn'] at hI
  clear hn hn'
  go_enter Try.func98,Try.ntmps98
  go_upto_region 1 with fail
  generalize w.alloc (.cells #[.slice A.ma g.mem.length A.mc,.slice A.ua g.up.length A.uc,.slice A.la g.mail.length A.lc] 61) = W0 at *
  go_wp2_with (go_at_call 84;refine hI.mono ?_;rintro e w' ⟨rfl,hw'⟩;rw [hw'];clear hw')
  go_ret
  exact ⟨ret_bool (by rw [HZ.out]),HB0.out⟩
 rw [hn] at hI
 have hn5 := inB7.1 hn
 clear hn
 by_cases hu : g.up.length = g.mem.length
 rotate_left
 ·have HZ : Hid (okGr g = false) := okGr_3 hu
  have e1 : ((g.up.length : Int) != (g.mem.length : Int)) = true := by simp;omega
  clear hu
  go_enter Try.func98,Try.ntmps98
  go_upto_region 1 with fail
  generalize w.alloc (.cells #[.slice A.ma g.mem.length A.mc,.slice A.ua g.up.length A.uc,.slice A.la g.mail.length A.lc] 61) = W0 at *
  go_wp2_with (go_at_call 84;refine hI.mono ?_;rintro e w' ⟨rfl,hw'⟩;rw [hw'];clear hw')
  go_ret
  exact ⟨ret_bool (by rw [HZ.out]),HB0.out⟩
 have e1 : ((g.up.length : Int) != (g.mem.length : Int)) = false := by simp;omega
 have HU : Hid (g.up.length = g.mem.length) := hu
 clear hu
 by_cases hm : g.mail.length ≤ 200
 rotate_left
 ·have HZ : Hid (okGr g = false) := okGr_4 hm
  have e2 : (g.mail.length : Int) > 200 := by omega
  clear hm
  go_enter Try.func98,Try.ntmps98
  go_upto_region 1 with fail
  generalize w.alloc (.cells #[.slice A.ma g.mem.length A.mc,.slice A.ua g.up.length A.uc,.slice A.la g.mail.length A.lc] 61) = W0 at *
  go_wp2_with (go_at_call 84;refine hI.mono ?_;rintro e w' ⟨rfl,hw'⟩;rw [hw'];clear hw')
  go_ret
  exact ⟨ret_bool (by rw [HZ.out]),HB0.out⟩
 have e2 : ¬ (g.mail.length : Int) > 200 := by omega
 go_enter Try.func98,Try.ntmps98
 go_upto_region 1 with fail
 generalize w.alloc (.cells #[.slice A.ma g.mem.length A.mc,.slice A.ua g.up.length A.uc,.slice A.la g.mail.length A.lc] 61) = W0 at *
 go_wp2_with (go_at_call 84;refine hI.mono ?_;rintro e w' ⟨rfl,hw'⟩;rw [hw'];clear hw')
 clear c0 c1 c2 hI e1 e2
 go_loopw [32] (fun v wr => ∃ k : Nat,k ≤ g.mem.length ∧ v = .int .i64 (k : Int) ∧ Hid (∀ j,j < k → oneMb g j = true) ∧ Below W0.heap.size W0 wr) (fun v _ => g.mem.length - (intOf v).toNat)
 case atStart => exact ⟨0,Nat.zero_le _,rfl,fun j hj => by omega,Below.refl _ _⟩
 case round =>
  obtain ⟨k,hk,rfl,HA,hb⟩ := hrel
  have HB : Hid (Below W0.heap.size W0 wr) := hb
  by_cases hlt : k < g.mem.length
  ·obtain ⟨bb,off,Ak,hma,⟨d0,d1,d2,d3,d4⟩,hmp⟩ := (HV.out.below hb).member hlt
   have HF : Hid (oneMb g k = false → okGr g = false) := fun h => okGr_5 hlt h
   have HT : Hid (oneMb g k = true → ∀ j,j < k + 1 → oneMb g j = true) := fun h j hj => by
    rcases Nat.lt_succ_iff_lt_or_eq.1 hj with h1 | h1
    ·exact HA.out j h1
    ·rw [h1];exact h
   have HO : Hid (oneMb g k = (okMb (memN g k) && (decide ((memN g k).id = (k : Int)) && decide ((memN g k).n = (g.mem.length : Int))))) := rfl
   have k1 : (k : Int) < (g.mem.length : Int) := by omega
   have k0 : (0 : Int) ≤ (k : Int) := by omega
   generalize oneMb g k = on at *
   generalize memN g k = m at *
   rw [hma]
   have HMa : Hid (A.ma = some ⟨bb,off,none⟩) := hma
   have hba := oneA16 wr (.cells #[.int .i64 m.id,.int .i64 m.n,.slice Ak.ra m.rows.length Ak.rc,.slice Ak.sa m.sung.length Ak.sc,.bool m.done] 103)
   have hxm := Bx.new wr 103 #[.int .i64 m.id,.int .i64 m.n,.slice Ak.ra m.rows.length Ak.rc,.slice Ak.sa m.sung.length Ak.sc,.bool m.done]
   have HBa : Hid (Below W0.heap.size W0 (wr.alloc (.cells #[.int .i64 m.id,.int .i64 m.n,.slice Ak.ra m.rows.length Ak.rc,.slice Ak.sa m.sung.length Ak.sc,.bool m.done] 103))) := HB.out.trans (hba.mono HB.out.size)
   have hMk := memI_any Ak m (wr.alloc (.cells #[.int .i64 m.id,.int .i64 m.n,.slice Ak.ra m.rows.length Ak.rc,.slice Ak.sa m.sung.length Ak.sc,.bool m.done] 103)) (hmp.below hba)
   unfold mbV mbC at hMk
   obtain ⟨y0,y1,y2,y3,y4⟩ := Bx.r5 hxm
   clear hmp hb hba hxm hma
   go_upto_region 7 with fail
   clear d0 d1 d2 d3 d4
   generalize wr.alloc (.cells #[.int .i64 m.id,.int .i64 m.n,.slice Ak.ra m.rows.length Ak.rc,.slice Ak.sa m.sung.length Ak.sc,.bool m.done] 103) = W5 at *
   by_cases q1 : m.id = (k : Int)
   rotate_left
   ·have z1 : (m.id != (k : Int)) = true := by simp [q1]
    have HZ : Hid (okGr g = false) := HF.out (by rw [HO.out,decide_eq_false q1];simp)
    clear HF HT HO q1
    go_wp2_with fail
    go_ret
    exact ⟨ret_bool (by rw [HZ.out]),HB0.out.trans (HBa.out.mono HB0.out.size)⟩
   have z1 : (m.id != (k : Int)) = false := by simp [q1]
   by_cases q2 : m.n = (g.mem.length : Int)
   rotate_left
   ·have z2 : (m.n != (g.mem.length : Int)) = true := by simp [q2]
    have HZ : Hid (okGr g = false) := HF.out (by rw [HO.out,decide_eq_false q2];simp)
    clear HF HT HO q1 q2
    go_wp2_with fail
    go_ret
    exact ⟨ret_bool (by rw [HZ.out]),HB0.out.trans (HBa.out.mono HB0.out.size)⟩
   have z2 : (m.n != (g.mem.length : Int)) = false := by simp [q2]
   have HO2 : Hid (on = okMb m) := by rw [Hid,HO.out,decide_eq_true q1,decide_eq_true q2];simp
   clear HO q1 q2
   generalize okMb m = ob at *
   go_wp2_with fail
   refine hMk.mono ?_
   rintro e w6 ⟨rfl,hb6⟩
   have HB6 : Hid (Below W0.heap.size W0 w6) := HBa.out.trans (hb6.mono HBa.out.size)
   clear hMk hb6 y0 y1 y2 y3 y4 z1 z2
   cases ob with
   | false =>
    have HZ : Hid (okGr g = false) := HF.out HO2.out
    clear HF HT HO2
    go_wp2_with fail
    go_ret
    exact ⟨ret_bool (by rw [HZ.out]),HB0.out.trans (HB6.out.mono HB0.out.size)⟩
   | true =>
    have HZ : Hid (∀ j,j < k + 1 → oneMb g j = true) := HT.out HO2.out
    clear HF HT HO2
    go_wp2_with fail
    go_roundw
    case rel => exact ⟨k + 1,by omega,by go_num,HZ.out,HB6.out⟩
    case measure => simp [intOf];omega
  ·have k1 : ¬ ((k : Int) < (g.mem.length : Int)) := by omega
   have HM : Hid (∀ j,j < g.mem.length → oneMb g j = true) := fun j hj => HA.out j (by omega)
   obtain ⟨c0,c1,c2⟩ := Bx.g3 (HX.out.below hb)
   clear hb HA
   go_wp2_with fail
   clear c0 c1 c2 k1
   generalize wr = V at *
   go_loopw [56] (fun v wr => ∃ k : Nat,k ≤ g.mail.length ∧ v = .int .i64 (k : Int) ∧ Hid (∀ j,j < k → okMl (mailN g j) (g.mem.length : Int) = true) ∧ Below W0.heap.size W0 wr) (fun v _ => g.mail.length - (intOf v).toNat)
   case atStart => exact ⟨0,Nat.zero_le _,rfl,fun j hj => by omega,HB.out⟩
   case round =>
    obtain ⟨k,hk,rfl,HA,hb⟩ := hrel
    have HB2 : Hid (Below W0.heap.size W0 wr) := hb
    by_cases hlt : k < g.mail.length
    ·obtain ⟨bb,off,Ak,hla,d0,d1,⟨⟨d2,d3,d4,d5⟩,d6,d7,d8,d9⟩,hrp⟩ := (HV.out.below hb).letter hlt
     have hx64 := HV.out.i64.2 _ (mailN_mem hlt)
     have HF : Hid (okMl (mailN g k) (g.mem.length : Int) = false → okGr g = false) := fun h => okGr_6 hlt h
     have HT : Hid (okMl (mailN g k) (g.mem.length : Int) = true → ∀ j,j < k + 1 → okMl (mailN g j) (g.mem.length : Int) = true) := fun h j hj => by
      rcases Nat.lt_succ_iff_lt_or_eq.1 hj with h1 | h1
      ·exact HA.out j h1
      ·rw [h1];exact h
     have HO : Hid (okMl (mailN g k) (g.mem.length : Int) = (belN (g.mem.length : Int) [(mailN g k).fr,(mailN g k).to] && okRw (mailN g k).row (g.mem.length : Int))) := okMl_split _ _
     have k1 : (k : Int) < (g.mail.length : Int) := by omega
     have k0 : (0 : Int) ≤ (k : Int) := by omega
     generalize okMl (mailN g k) (g.mem.length : Int) = on at *
     generalize (mailN g k).row = r at *
     generalize (mailN g k).fr = fr at *
     generalize (mailN g k).to = tt at *
     rw [hla]
     have HLa : Hid (A.la = some ⟨bb,off,none⟩) := hla
     have hba := oneA16 wr (.cells #[.int .i64 fr,.int .i64 tt,.int .i64 r.ver,.slice Ak.ta r.txt.length Ak.tc,.slice Ak.ga r.got.length Ak.gc,.slice Ak.sa r.sus.length Ak.sc,.bool r.wed,.bool r.rdy,.int .i64 r.by_,.slice Ak.ma r.trm.length Ak.mc] 139)
     have hxm := Bx.new wr 139 #[.int .i64 fr,.int .i64 tt,.int .i64 r.ver,.slice Ak.ta r.txt.length Ak.tc,.slice Ak.ga r.got.length Ak.gc,.slice Ak.sa r.sus.length Ak.sc,.bool r.wed,.bool r.rdy,.int .i64 r.by_,.slice Ak.ma r.trm.length Ak.mc]
     have HBa : Hid (Below W0.heap.size W0 (wr.alloc (.cells #[.int .i64 fr,.int .i64 tt,.int .i64 r.ver,.slice Ak.ta r.txt.length Ak.tc,.slice Ak.ga r.got.length Ak.gc,.slice Ak.sa r.sus.length Ak.sc,.bool r.wed,.bool r.rdy,.int .i64 r.by_,.slice Ak.ma r.trm.length Ak.mc] 139))) := HB2.out.trans (hba.mono HB2.out.size)
     have hrp5 := hrp.below hba
     have HRp : Hid (RwP (wr.alloc (.cells #[.int .i64 fr,.int .i64 tt,.int .i64 r.ver,.slice Ak.ta r.txt.length Ak.tc,.slice Ak.ga r.got.length Ak.gc,.slice Ak.sa r.sus.length Ak.sc,.bool r.wed,.bool r.rdy,.int .i64 r.by_,.slice Ak.ma r.trm.length Ak.mc] 139)) Ak r) := hrp5
     have HXm : Hid (Bx (wr.alloc (.cells #[.int .i64 fr,.int .i64 tt,.int .i64 r.ver,.slice Ak.ta r.txt.length Ak.tc,.slice Ak.ga r.got.length Ak.gc,.slice Ak.sa r.sus.length Ak.sc,.bool r.wed,.bool r.rdy,.int .i64 r.by_,.slice Ak.ma r.trm.length Ak.mc] 139)) wr.heap.size 139 #[.int .i64 fr,.int .i64 tt,.int .i64 r.ver,.slice Ak.ta r.txt.length Ak.tc,.slice Ak.ga r.got.length Ak.gc,.slice Ak.sa r.sus.length Ak.sc,.bool r.wed,.bool r.rdy,.int .i64 r.by_,.slice Ak.ma r.trm.length Ak.mc]) := hxm
     obtain ⟨⟨y0,y1,_,_,_⟩,_⟩ := Bx.r10p hxm
     clear hrp hrp5 hb hba hxm hla
     go_upto_region 13 with fail
     clear d0 d1 d2 d3 d4 d5 d6 d7 d8 d9
     generalize wr.alloc (.cells #[.int .i64 fr,.int .i64 tt,.int .i64 r.ver,.slice Ak.ta r.txt.length Ak.tc,.slice Ak.ga r.got.length Ak.gc,.slice Ak.sa r.sus.length Ak.sc,.bool r.wed,.bool r.rdy,.int .i64 r.by_,.slice Ak.ma r.trm.length Ak.mc] 139) = W5 at *
     have hb7 := oneA16 W5 (.cells #[.int .i64 fr,.int .i64 tt] 2)
     have hAb := anb_any (g.mem.length : Int) W5.heap.size 0 2 [fr,tt] (W5.alloc (.cells #[.int .i64 fr,.int .i64 tt] 2)) (vec_pair W5 fr tt hx64.1 hx64.2.1) (by simp) (by simp) (by unfold maxLen;omega) (by omega)
     have HB7 : Hid (Below W0.heap.size W0 (W5.alloc (.cells #[.int .i64 fr,.int .i64 tt] 2))) := HBa.out.trans (hb7.mono HBa.out.size)
     have hRo := implRowOk Ak r (g.mem.length : Int) (W5.alloc (.cells #[.int .i64 fr,.int .i64 tt] 2)) (HRp.out.below hb7) (by unfold I64v;omega)
     obtain ⟨_,y5,y6,y7,y8,y9⟩ := Bx.r10p (HXm.out.below hb7)
     obtain ⟨⟨_,_,y2,y3,y4⟩,_⟩ := Bx.r10p (HXm.out.below hb7)
     unfold rwV rwC at hRo
     simp only [List.length_cons,List.length_nil,Nat.zero_add,Nat.reduceAdd] at hAb
     generalize belN (g.mem.length : Int) [fr,tt] = p at *
     clear hb7 hx64
     cases p with
     | false =>
      have HZ : Hid (okGr g = false) := HF.out (by rw [HO.out];rfl)
      clear HF HT HO hRo y2 y3 y4 y5 y6 y7 y8 y9
      go_wp2_with (go_at_call 128;refine hAb.mono ?_;rintro e w' ⟨rfl,hw'⟩;rw [hw'];clear hw')
      go_ret
      exact ⟨ret_bool (by rw [HZ.out]),HB0.out.trans (HB7.out.mono HB0.out.size)⟩
     | true =>
      have HO2 : Hid (on = okRw r (g.mem.length : Int)) := by rw [Hid,HO.out,Bool.true_and]
      clear HO
      generalize okRw r (g.mem.length : Int) = ob at *
      go_wp2_with (go_at_call 128;refine hAb.mono ?_;rintro e w' ⟨rfl,hw'⟩;rw [hw'];clear hw')
      refine hRo.mono ?_
      rintro e w6 ⟨rfl,hb6⟩
      have HB6 : Hid (Below W0.heap.size W0 w6) := HB7.out.trans (hb6.mono HB7.out.size)
      clear hRo hb6 hAb y0 y1 y2 y3 y4 y5 y6 y7 y8 y9
      cases ob with
      | false =>
       have HZ : Hid (okGr g = false) := HF.out HO2.out
       clear HF HT HO2
       go_wp2_with fail
       go_ret
       exact ⟨ret_bool (by rw [HZ.out]),HB0.out.trans (HB6.out.mono HB0.out.size)⟩
      | true =>
       have HZ : Hid (∀ j,j < k + 1 → okMl (mailN g j) (g.mem.length : Int) = true) := HT.out HO2.out
       clear HF HT HO2
       go_wp2_with fail
       go_roundw
       case rel => exact ⟨k + 1,by omega,by go_num,HZ.out,HB6.out⟩
       case measure => simp [intOf];omega
    ·have k1 : ¬ ((k : Int) < (g.mail.length : Int)) := by omega
     have HZ : Hid (okGr g = true) := okGr_yes (by omega) (by omega) HU.out hm HM.out (fun j hj => HA.out j (by omega))
     clear hb HA
     go_wp2_with fail
     go_ret
     exact ⟨ret_bool (by rw [HZ.out]),HB0.out.trans (HB2.out.mono HB0.out.size)⟩
end Go.Proofs.Ytlnmdfgcpfbleaa
namespace Go.Proofs.Ytlnmdfgcpfbleaa
set_option linter.unusedVariables false
set_option linter.unusedSimpArgs false
open Go.RowKit Go.Sort
set_option maxRecDepth 100000 in
set_option maxHeartbeats 3200000 in
theorem endd_any (A : Ga) (g : Gr) (w : World) (hv : GrS w A g) (h5 : g.mem.length ≤ 5) :
  Calls Try.prog 99 #[grV A g] w fun e w' => AnsL w w' e (dnK g g.mem.length) := by
 have hB0 := oneA16 w (.cells (grC A g) 61)
 have hx := Bx.new w 61 (grC A g)
 have h0 := hv.below hB0
 unfold grV at *
 unfold grC at *
 generalize hW : w.alloc (.cells #[.slice A.ma g.mem.length A.mc,.slice A.ua g.up.length A.uc,.slice A.la g.mail.length A.lc] 61) = W at *
 have hb0 := oneA16 W (.cells #[] 2)
 have HO0 : Hid (Cel.ow (W.alloc (.cells #[] 2)) (icl []) (.slice (some ⟨W.heap.size,0,none⟩) 0 0) (fun _ => False)) := ow_icl.2 ⟨_,0,none,rfl,OSo.nil _ _ (plainS _ _),fun b => by simp⟩
 have HX : Hid (Bx W w.heap.size 61 #[.slice A.ma g.mem.length A.mc,.slice A.ua g.up.length A.uc,.slice A.la g.mail.length A.lc]) := hx
 have HV : Hid (GrS W A g) := h0
 have HB0 : Hid (∀ X,Below W.heap.size W X → Below w.heap.size w X) := fun X h => hB0.trans (h.mono hB0.size)
 have hws := hB0.size
 have HBz : Hid (Below W.heap.size W (W.alloc (.cells #[] 2))) := hb0
 obtain ⟨c0,c1,c2⟩ := Bx.g3 (hx.below hb0)
 clear hv hx h0 hB0 hb0
 go_enter Try.func99,Try.ntmps99
 go_upto_region 2 with fail
 go_wp2_with fail
 clear c0 c1 c2
 go_loopw [3,10] (fun v i wr => ∃ (k : Nat) (a : Option Addr) (cc : Nat) (Z : List Int) (fz : Fp),k ≤ g.mem.length ∧ i = .int .i64 (k : Int) ∧ v = .slice a Z.length cc ∧ Hid (Z = dnK g k) ∧ Cel.ow wr (icl Z) (.slice a Z.length cc) fz ∧ (∀ b,fz b → W.heap.size ≤ b) ∧ Below W.heap.size W wr) (fun _ i _ => g.mem.length - (intOf i).toNat)
 case atStart => exact ⟨0,some ⟨W.heap.size,0,none⟩,0,[],_,Nat.zero_le _,rfl,rfl,rfl,HO0.out,fun b h => h.elim,HBz.out⟩
 case round =>
  obtain ⟨k,a,cc,Z,fz,hk,rfl,rfl,hZ,hO,hfz,hgr⟩ := hrel
  have hzl : Z.length ≤ 1000000 := by rw [hZ.out];have := dnK_len g k;omega
  have hgs := hgr.size
  by_cases hlt : k < g.mem.length
  ·have k1 : (k : Int) < (g.mem.length : Int) := by omega
   have k0 : (0 : Int) ≤ (k : Int) := by omega
   obtain ⟨b,off,Ak,hma,⟨d0,d1,d2,d3,d4⟩,hms⟩ := (HV.out.below hgr).member (k := k) hlt
   rw [hma]
   have hbm := oneA16 wr (.cells #[.int .i64 (memN g k).id,.int .i64 (memN g k).n,.slice Ak.ra (memN g k).rows.length Ak.rc,.slice Ak.sa (memN g k).sung.length Ak.sc,.bool (memN g k).done] 103)
   have hbx := Bx.new wr 103 #[.int .i64 (memN g k).id,.int .i64 (memN g k).n,.slice Ak.ra (memN g k).rows.length Ak.rc,.slice Ak.sa (memN g k).sung.length Ak.sc,.bool (memN g k).done]
   have HN : Hid (dnK g (k + 1) = if (memN g k).done = true then Z ++ [(k : Int)] else Z) := by rw [Hid,dnK_more,hZ.out]
   have HO : Hid (Cel.ow (wr.alloc (.cells #[.int .i64 (memN g k).id,.int .i64 (memN g k).n,.slice Ak.ra (memN g k).rows.length Ak.rc,.slice Ak.sa (memN g k).sung.length Ak.sc,.bool (memN g k).done] 103)) (icl Z) (.slice a Z.length cc) fz) := Cel.ow_below hO hbm
   have HG : Hid (Below W.heap.size W (wr.alloc (.cells #[.int .i64 (memN g k).id,.int .i64 (memN g k).n,.slice Ak.ra (memN g k).rows.length Ak.rc,.slice Ak.sa (memN g k).sung.length Ak.sc,.bool (memN g k).done] 103))) := hgr.trans (hbm.mono hgs)
   clear hma hms hgr hO hZ hbm
   go_upto_region 5 with fail
   generalize wr.alloc (.cells #[.int .i64 (memN g k).id,.int .i64 (memN g k).n,.slice Ak.ra (memN g k).rows.length Ak.rc,.slice Ak.sa (memN g k).sung.length Ak.sc,.bool (memN g k).done] 103) = wm at *
   have hsz : W.heap.size ≤ wm.heap.size := HG.out.size
   clear d0 d1 d2 d3 d4
   obtain ⟨m0,m1,m2,m3,m4⟩ := Bx.r5 hbx
   clear hbx m0 m1 m2 m3
   cases hd : (memN g k).done with
   | false =>
    have HE : Hid (Z = dnK g (k + 1)) := by rw [Hid,HN.out,hd];rfl
    rw [hd] at m4
    clear hd HN
    go_wp2
    go_roundw
    case rel => exact ⟨k + 1,a,cc,Z,fz,by omega,by go_num,rfl,HE,HO.out,hfz,HG.out⟩
    case measure => simp [intOf];omega
   | true =>
    have HE : Hid (Z ++ [(k : Int)] = dnK g (k + 1)) := by rw [Hid,HN.out,hd];rfl
    rw [hd] at m4
    clear hd HN
    obtain ⟨a',c',ea,hA⟩ := ow_int_app (k : Int) HO.out hzl
    cases ea
    go_wp2_with (at_builtin;refine wpList_append_of (by rfl) _ _ _ _ (by rfl) _ _ (by rfl) (by rfl) hA ⟨rfl,rfl,rfl,rfl⟩ ?_;rintro v1 w2 ⟨a1,e1,f1,rfl,q1,q2,q3⟩;have HQ1 : Hid (Cel.ow w2 (icl (Z ++ [(k : Int)])) (.slice a1 (Z.length + 1) e1) f1) := q1;have HQ2 : Hid (∀ b,f1 b → fz b ∨ wm.heap.size ≤ b) := q2;have HQ3 : Hid (Wrt fz wm w2) := q3;clear q1 q2 q3 hA)
    have HL : Hid ((Z ++ [(k : Int)]).length = Z.length + 1) := by rw [Hid,List.length_append];rfl
    go_roundw
    case rel => exact ⟨k + 1,a1,e1,Z ++ [(k : Int)],f1,by omega,by go_num,by rw [HL.out],HE,by rw [HL.out];exact HQ1.out,fun b hb => (HQ2.out b hb).elim (hfz b) (fun h => by omega),HQ3.out.below HG.out (by omega) (fun b hb => hfz b hb)⟩
    case measure => simp [intOf];omega
  ·have k1 : ¬ ((k : Int) < (g.mem.length : Int)) := by omega
   have HE : Hid (dnK g g.mem.length = Z) := by rw [Hid,hZ.out,show k = g.mem.length by omega]
   have HF : Hid (NewO w wr (icl Z) (.slice a Z.length cc)) := ⟨fz,hO,fun b hb => by have := hfz b hb;omega,HB0.out _ hgr⟩
   clear hO hgr hZ
   go_wp2
   go_ret
   rw [HE.out]
   exact ⟨a,cc,rfl,HF.out⟩
theorem trb_any (A : Ga) (g : Gr) (w : World) (hv : GrS w A g) (k : Nat) (hk : k < g.mem.length) (hkr : k < (memN g k).rows.length) :
  ∃ a c,Vec w a (ownT g k).length (ownT g k) ∧ (ownT g k).length ≤ maxLen ∧ ∀ X,Below w.heap.size w X → Calls Try.prog 101 #[grV A g,.int .i64 (k : Int)] X fun e w' => e = .returned (.slice a (ownT g k).length c) ∧ Below X.heap.size X w' := by
 obtain ⟨b,off,Ak,hma,⟨d0,d1,d2,d3,d4⟩,hms⟩ := hv.member (k := k) hk
 obtain ⟨b',off',Ar,hra,⟨⟨e0,e1,e2,e3⟩,e4,e5,e6,e7⟩,hrs⟩ := hms.row (k := k) hkr
 obtain ⟨ma,mc,ua,uc,la,lc⟩ := A
 simp only at hma
 subst hma
 refine ⟨Ar.ma,Ar.mc,hrs.trm,hrs.mm,fun X hX => ?_⟩
 have k1 : (k : Int) < (g.mem.length : Int) := by omega
 have k0 : (0 : Int) ≤ (k : Int) := by omega
 have k2 : (k : Int) < ((memN g k).rows.length : Int) := by omega
 have e7' : w.cell? ⟨b',off' + k * 8 + 7,none⟩ = some (.slice Ar.ma (ownT g k).length Ar.mc) := e7
 have hb0 := oneA16 X (.cells #[.slice (some ⟨b,off,none⟩) g.mem.length mc,.slice ua g.up.length uc,.slice la g.mail.length lc] 61)
 have hx0 := Bx.new X 61 #[.slice (some ⟨b,off,none⟩) g.mem.length mc,.slice ua g.up.length uc,.slice la g.mail.length lc]
 have hbb := hX.trans (hb0.mono hX.size)
 have f2 := (hbb.cell (World.block_lt_of_cell? _ _ d2)).trans d2
 have f7 := (hbb.cell (World.block_lt_of_cell? _ _ e7')).trans e7'
 have HB : Hid (Below X.heap.size X (X.alloc (.cells #[.slice (some ⟨b,off,none⟩) g.mem.length mc,.slice ua g.up.length uc,.slice la g.mail.length lc] 61))) := hb0
 unfold grV grC
 generalize hWW : X.alloc (.cells #[.slice (some ⟨b,off,none⟩) g.mem.length mc,.slice ua g.up.length uc,.slice la g.mail.length lc] 61) = W at *
 obtain ⟨c0,c1,c2⟩ := Bx.g3 hx0
 rw [hra] at f2
 clear hv hms hrs d0 d1 d2 d3 d4 e0 e1 e2 e3 e4 e5 e6 e7 e7' hb0 hx0 hbb hX hra
 go_enter Try.func101,Try.ntmps101
 go_wp2
 go_ret
 exact ⟨rfl,HB.out⟩
theorem dnK_at {g : Gr} {k j : Nat} (h : j < (dnK g k).length) : ∃ i : Nat,el (dnK g k) j = (i : Int) ∧ i < k ∧ (memN g i).done = true := by
 have hm := el_mem (xs := dnK g k) h
 unfold dnK lN at hm
 obtain ⟨i,hi,e⟩ := List.mem_map.1 hm
 obtain ⟨h1,h2⟩ := List.mem_filter.1 hi
 exact ⟨i,e.symm,List.mem_range.1 h1,h2⟩
theorem dnK_has {g : Gr} {k i : Nat} (hi : i < k) (hd : (memN g i).done = true) : ∃ j,j < (dnK g k).length ∧ el (dnK g k) j = (i : Int) := by
 have hm : (i : Int) ∈ dnK g k := List.mem_map.2 ⟨i,List.mem_filter.2 ⟨List.mem_range.2 hi,hd⟩,rfl⟩
 exact mem_el17 hm
theorem end_all {g : Gr} {T : List Int} : ∀ (f k : Nat) (t : List Int),(∀ i,k ≤ i → i < k + f → (memN g i).done = true → ownT g i = T) → (t = [] ∨ t = T) → endGo g f k t = true
 | 0,_,_,_,_ => rfl
 | f + 1,k,t,h,ht => by
  cases hd : (memN g k).done with
  | false => rw [endGo_skip hd];exact end_all f (k + 1) t (fun i h1 h2 => h i (by omega) (by omega)) ht
  | true =>
   have e := h k (Nat.le_refl _) (by omega) hd
   rw [endGo_on hd (fun hn => by rcases ht with h0 | h0;rw [h0] at hn;exact absurd hn.1 (by simp);exact hn.2 (h0.trans e.symm))]
   exact end_all f (k + 1) _ (fun i h1 h2 => h i (by omega) (by omega)) (.inr e)
theorem end_same {g : Gr} : ∀ (f k : Nat) (t : List Int),0 < t.length → endGo g f k t = true → ∀ i,k ≤ i → i < k + f → (memN g i).done = true → ownT g i = t
 | 0,k,t,_,_,i,h1,h2,_ => by omega
 | f + 1,k,t,ht,he,i,h1,h2,hi => by
  cases hd : (memN g k).done with
  | false =>
   rw [endGo_skip hd] at he
   rcases Nat.eq_or_lt_of_le h1 with e | e
   ·rw [← e,hd] at hi;cases hi
   ·exact end_same f (k + 1) t ht he i e (by omega) hi
  | true =>
   by_cases e : t = ownT g k
   ·rw [endGo_on hd (fun hn => hn.2 e),← e] at he
    rcases Nat.eq_or_lt_of_le h1 with e1 | e1
    ·rw [← e1];exact e.symm
    ·exact end_same f (k + 1) t ht he i e1 (by omega) hi
   ·rw [endGo_stop hd ht e] at he;cases he
theorem end_two {g : Gr} : ∀ (f k : Nat),(∀ i,k ≤ i → i < k + f → (memN g i).done = true → 0 < (ownT g i).length) → endGo g f k [] = true → ∀ i j,k ≤ i → i < k + f → k ≤ j → j < k + f → (memN g i).done = true → (memN g j).done = true → ownT g i = ownT g j
 | 0,k,_,_,i,j,h1,h2,_,_,_,_ => by omega
 | f + 1,k,hp,he,i,j,h1,h2,h3,h4,hi,hj => by
  cases hd : (memN g k).done with
  | false =>
   rw [endGo_skip hd] at he
   have n1 : k ≠ i := fun e => by rw [← e,hd] at hi;cases hi
   have n2 : k ≠ j := fun e => by rw [← e,hd] at hj;cases hj
   exact end_two f (k + 1) (fun i h1 h2 => hp i (by omega) (by omega)) he i j (by omega) (by omega) (by omega) (by omega) hi hj
  | true =>
   rw [endGo_on hd (fun hn => absurd hn.1 (by simp))] at he
   have hs : ∀ i,k ≤ i → i < k + (f + 1) → (memN g i).done = true → ownT g i = ownT g k := fun i h1 h2 hi => by
    rcases Nat.eq_or_lt_of_le h1 with e | e
    ·rw [← e]
    ·exact end_same f (k + 1) _ (hp k (Nat.le_refl _) (by omega) hd) he i e (by omega) hi
   rw [hs i h1 h2 hi,hs j h3 h4 hj]
theorem OkG.ownT_pos {g : Gr} {n k : Nat} (G : OkG g n) (hk : k < n) (hd : (memN g k).done = true) : 0 < (ownT g k).length := by
 have M := G.mem k hk
 have h := ((M.ok k hk).rdy (M.dn hd)).2.2.2.1
 have := G.n5
 show 0 < (rowN (memN g k).rows k).trm.length
 omega
set_option maxRecDepth 100000 in
set_option maxHeartbeats 3200000 in
theorem implOneEnd : ImplOneEnd := by
 intro A g w hv
 have hmix := mixed17
 have hb0 := oneA16 w (.cells #[.slice A.ma g.mem.length A.mc,.slice A.ua g.up.length A.uc,.slice A.la g.mail.length A.lc] 61)
 have hx0 := Bx.new w 61 #[.slice A.ma g.mem.length A.mc,.slice A.ua g.up.length A.uc,.slice A.la g.mail.length A.lc]
 have hG := gokI_any A g (w.alloc (.cells #[.slice A.ma g.mem.length A.mc,.slice A.ua g.up.length A.uc,.slice A.la g.mail.length A.lc] 61)) (hv.below hb0)
 have HV : Hid (GrP (w.alloc (.cells #[.slice A.ma g.mem.length A.mc,.slice A.ua g.up.length A.uc,.slice A.la g.mail.length A.lc] 61)) A g) := hv.below hb0
 unfold grV grC at hG ⊢
 generalize hWW : w.alloc (.cells #[.slice A.ma g.mem.length A.mc,.slice A.ua g.up.length A.uc,.slice A.la g.mail.length A.lc] 61) = W at *
 have HX : Hid (Bx W w.heap.size 61 #[.slice A.ma g.mem.length A.mc,.slice A.ua g.up.length A.uc,.slice A.la g.mail.length A.lc]) := hx0
 have HB0 : Hid (Below w.heap.size w W) := hb0
 obtain ⟨c0,c1,c2⟩ := Bx.g3 hx0
 clear hv hb0 hx0
 go_enter Try.func46,Try.ntmps46
 go_wp2_with fail
 refine hG.mono ?_
 rintro e w1 ⟨rfl,hb1⟩
 have HB1 : Hid (Below w.heap.size w w1) := HB0.out.trans (hb1.mono HB0.out.size)
 have HV1 : Hid (GrP w1 A g) := HV.out.below hb1
 have HX1 : Hid (Bx w1 w.heap.size 61 #[.slice A.ma g.mem.length A.mc,.slice A.ua g.up.length A.uc,.slice A.la g.mail.length A.lc]) := HX.out.below hb1
 clear c0 c1 c2
 obtain ⟨c0,c1,c2⟩ := Bx.g3 HX1.out
 clear hG hb1 HX HV HB0 hWW
 cases hok : okGr g with
 | false =>
  have HZ : Hid (oneB g = false) := by rw [Hid,oneB,hok];rfl
  clear hok
  go_wp2
  go_ret
  exact ⟨ret_bool HZ.out.symm,HB1.out⟩
 | true =>
  have HZ : Hid (oneB g = endGo g g.mem.length 0 []) := by rw [Hid,oneB,hok];rfl
  obtain ⟨n,ok⟩ := okGr_iff.1 hok
  have HOk : Hid (OkG g n) := ok
  have h5 : g.mem.length ≤ 5 := by rw [ok.ml];exact ok.n5.2
  have HN : Hid (g.mem.length = n) := ok.ml
  have hE := endd_any A g w1 HV1.out.grs h5
  unfold grV grC at hE
  clear hok ok
  go_wp2_with fail
  refine hE.mono ?_
  rintro e w2 ⟨a,c,rfl,hN⟩
  obtain ⟨f,hf,_,hb2⟩ := hN
  have hfit : Fits (dnK g g.mem.length) := lN_fits (n := g.mem.length) (fun k hk => List.mem_range.1 (List.mem_filter.1 hk).1) (by omega)
  obtain ⟨a',c',ea,hvec,_,_⟩ := vw_icl (Cel.ow_vw hf) hfit
  cases ea
  have HB2 : Hid (Below w.heap.size w w2) := HB1.out.trans (hb2.mono HB1.out.size)
  have HV2 : Hid (GrS w2 A g) := HV1.out.grs.below hb2
  have HX2 : Hid (Bx w2 w.heap.size 61 #[.slice A.ma g.mem.length A.mc,.slice A.ua g.up.length A.uc,.slice A.la g.mail.length A.lc]) := HX1.out.below hb2
  have HL : Hid (Vec w2 a (dnK g g.mem.length).length (dnK g g.mem.length)) := hvec
  have HAt : Hid (∀ j,j < (dnK g g.mem.length).length → ∃ i : Nat,el (dnK g g.mem.length) j = (i : Int) ∧ i < g.mem.length ∧ (memN g i).done = true) := fun j hj => dnK_at hj
  have HHas : Hid (∀ i,i < g.mem.length → (memN g i).done = true → ∃ j,j < (dnK g g.mem.length).length ∧ el (dnK g g.mem.length) j = (i : Int)) := fun i hi hd => dnK_has hi hd
  have hdl := dnK_len g g.mem.length
  clear hE hf hb2 hfit hvec c0 c1 c2 HB1 HV1 HX1
  generalize dnK g g.mem.length = D at *
  go_wp2_with fail
  go_loopw [13] (fun i wr => ∃ k q : Nat,k ≤ D.length ∧ i = .int .i64 (k : Int) ∧ Below w2.heap.size w2 wr ∧ ∀ j,j < k → ownT g (el D j).toNat = ownT g (el D 0).toNat) (fun i _ => D.length - (intOf i).toNat)
  case atStart => exact ⟨0,0,Nat.zero_le _,rfl,Below.refl _ _,fun j hj => by omega⟩
  case round =>
   obtain ⟨k,q,hk,rfl,hgr,hall⟩ := hrel
   have HA : Hid (∀ j,j < k → ownT g (el D j).toNat = ownT g (el D 0).toNat) := hall
   have HR : Hid (Below w2.heap.size w2 wr) := hgr
   clear hall
   by_cases hlt : k < D.length
   ·have k1 : (k : Int) < (D.length : Int) := by omega
    have k0 : (0 : Int) ≤ (k : Int) := by omega
    have z1 : (0 : Int) < (D.length : Int) := by omega
    obtain ⟨i,ei,hi,hdi⟩ := HAt.out k hlt
    obtain ⟨i0,ei0,hi0,hd0⟩ := HAt.out 0 (by omega)
    have hrow : ∀ i,i < g.mem.length → i < (memN g i).rows.length := fun i hi => by
     have := (HOk.out.mem i (by rw [← HN.out];exact hi)).len
     rw [this,← HN.out];exact hi
    obtain ⟨ta,tc,hv1,hm1,hC1⟩ := trb_any A g wr (HV2.out.below hgr) i hi (hrow i hi)
    obtain ⟨sa,sc,hv2,hm2,hC2⟩ := trb_any A g wr (HV2.out.below hgr) i0 hi0 (hrow i0 hi0)
    have HI : Hid (ownT g (el D k).toNat = ownT g i) := by rw [Hid,ei];rfl
    have HI0 : Hid (ownT g (el D 0).toNat = ownT g i0) := by rw [Hid,ei0];rfl
    have hvd : Vec wr a D.length D := HL.out.below hgr (Nat.le_refl _)
    have T1 : ∀ q : Bk wr,Calls Try.prog 101 #[grV A g,.int .i64 (i : Int)] q.w fun e w' => e = .returned (.slice ta (ownT g i).length tc) ∧ Below q.w.heap.size q.w w' := fun q => hC1 q.w q.h
    have T2 : ∀ q : Bk wr,Calls Try.prog 101 #[grV A g,.int .i64 (i0 : Int)] q.w fun e w' => e = .returned (.slice sa (ownT g i0).length sc) ∧ Below q.w.heap.size q.w w' := fun q => hC2 q.w q.h
    have CE : ∀ q : Bk wr,Calls Try.prog 100 #[.slice ta (ownT g i).length tc,.slice sa (ownT g i0).length sc] q.w fun e w' => e = .returned (.bool (decide (ownT g i = ownT g i0))) ∧ Below q.w.heap.size q.w w' := fun q => (slEqual_any ta sa _ tc _ sc _ _ q.w (hv1.below q.h (Nat.le_refl _)) (hv2.below q.h (Nat.le_refl _)) hm1).mono (fun e w' h => ⟨h.1,by obtain ⟨n,hn⟩ := h.2;rw [hn];exact belowN (Below.refl _ _)⟩)
    unfold grV grC at T1 T2
    have T : ∀ {x v},wr.cell? x = some v → ∀ q : Bk wr,q.w.cell? x = some v := fun h q => (q.h.cell (World.block_lt_of_cell? _ _ h)).trans h
    obtain ⟨c0,c1,c2⟩ := Bx.g3 (HX2.out.below hgr)
    have p0 := T c0
    have p1 := T c1
    have p2 := T c2
    have pd : ∀ q : Bk wr,Vec q.w a D.length D := fun q => hvd.below q.h (Nat.le_refl _)
    obtain ⟨db,doff,hda,hdc⟩ : ∃ b o,a = some ⟨b,o,none⟩ ∧ ∀ i,i < D.length → wr.cell? ⟨b,o + i,none⟩ = some (.int .i64 (el D i)) := by
     rcases hvd.2.2 with h | h
     ·omega
     ·exact h
    subst hda
    have d0 := hdc 0 (by omega)
    rw [ei0,Nat.add_zero] at d0
    have dk := hdc k hlt
    rw [ei] at dk
    clear hdc hvd pd c0 c1 c2
    have y0 := T d0
    clear d0 hgr hv1 hv2 hC1 hC2 hrow T
    by_cases he : ownT g i = ownT g i0
    ·rw [decide_eq_true he] at CE
     have HNx : Hid (∀ j,j < k + 1 → ownT g (el D j).toNat = ownT g (el D 0).toNat) := fun j hj => by
      rcases Nat.lt_succ_iff_lt_or_eq.1 hj with h | h
      ·exact HA.out j h
      ·rw [h,HI.out,HI0.out];exact he
     clear he HA
     go_upto_region 7 with fail
     clear dk
     refine wp_region_bk (by kernel_rfl) (by kernel_rfl) ?_
     repeat (go_big_quiet_step ((first | (go_at_call 101;with_reducible exact bk_call _ (T1 _)) | (go_at_call 101;with_reducible exact bk_call _ (T2 _)) | (go_at_call 100;with_reducible exact bk_call _ (CE _)) | rfl)))
     refine wpQuiet_nil ?_
     intro wE hw'
     obtain ⟨⟨w11,hb11⟩,hw''⟩ := hw'
     have hwe : wE = w11 := hw''
     clear hw''
     subst hwe
     have HRE : Hid (Below w2.heap.size w2 wE) := HR.out.trans (hb11.mono HR.out.size)
     clear hb11 T1 T2 CE p0 p1 p2 y0
     go_wp2
     go_roundw
     case rel => exact ⟨k + 1,0,by omega,by go_num,HRE.out,HNx.out⟩
     case measure => simp [intOf];omega
    ·rw [decide_eq_false he] at CE
     have HE : Hid (oneB g = false) := by
      rw [Hid,HZ.out]
      cases hb : endGo g g.mem.length 0 [] with
      | false => rfl
      | true => exact absurd (end_two _ 0 (fun j _ hj hd => HOk.out.ownT_pos (by rw [← HN.out];omega) hd) hb i i0 (Nat.zero_le _) (by omega) (Nat.zero_le _) (by omega) hdi hd0) he
     clear he HA
     go_upto_region 7 with fail
     clear dk
     refine wp_region_bk (by kernel_rfl) (by kernel_rfl) ?_
     repeat (go_big_quiet_step ((first | (go_at_call 101;with_reducible exact bk_call _ (T1 _)) | (go_at_call 101;with_reducible exact bk_call _ (T2 _)) | (go_at_call 100;with_reducible exact bk_call _ (CE _)) | rfl)))
     refine wpQuiet_nil ?_
     intro wE hw'
     obtain ⟨⟨w11,hb11⟩,hw''⟩ := hw'
     have hwe : wE = w11 := hw''
     clear hw''
     subst hwe
     have HRE : Hid (Below w.heap.size w wE) := HB2.out.trans ((HR.out.trans (hb11.mono HR.out.size)).mono HB2.out.size)
     clear hb11 T1 T2 CE p0 p1 p2 y0
     go_wp2
     go_ret
     exact ⟨ret_bool HE.out.symm,HRE.out⟩
   ·have k1 : ¬ ((k : Int) < (D.length : Int)) := by omega
    have HE : Hid (oneB g = true) := by
     rw [Hid,HZ.out]
     refine end_all (T := ownT g (el D 0).toNat) _ 0 [] (fun i _ hi hd => ?_) (.inl rfl)
     obtain ⟨j,hj,ej⟩ := HHas.out i (by omega) hd
     have := HA.out j (by omega)
     rw [ej] at this
     exact this
    have HF : Hid (Below w.heap.size w wr) := HB2.out.trans (hgr.mono HB2.out.size)
    clear hgr
    go_wp2
    go_ret
    exact ⟨ret_bool HE.out.symm,HF.out⟩
end Go.Proofs.Ytlnmdfgcpfbleaa