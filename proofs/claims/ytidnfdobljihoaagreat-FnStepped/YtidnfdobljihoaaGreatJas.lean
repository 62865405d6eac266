/-
  Texts in one: Nok Nol Noi.
-/
import Derived.Test.YtidnfdobljihoaaGreatJar
import Derived.Test.YtidnfdobljihoaaGreatJaj
import Derived.Test.YtidnfdobljihoaaGreatJao
namespace Go.Proofs.YtidnfdobljihoaaGreat
set_option linter.unusedVariables false
set_option linter.unusedSimpArgs false
open Go.RowKit Go.Sort
theorem foF_fold {f : Int → Int → Int} (hf : ∀ x,f x x = x) {r : List Int} {rs : List (List Int)} (hr : okB r = true) : ∀ k,k ≤ rs.length → foF f (r :: rs) (k + 1) = (rs.take k).foldl (pairB f) r
 | 0,_ => by
  show pairB f (row (r :: rs) 0) (row (r :: rs) 0) = r
  simp only [row,List.getD_cons_zero]
  exact pair_self hf hr
 | k + 1,hk => by
  have ih := foF_fold hf hr (rs := rs) k (by omega)
  show pairB f (foF f (r :: rs) (k + 1)) (row (r :: rs) (k + 1)) = _
  rw [ih,List.take_succ_eq_append_getElem (by omega),List.foldl_append]
  simp [row,List.getD,show k < rs.length by omega]
theorem foF_meets (R : List Rw) {L : List Nat} (hL : ∀ k ∈ L,okB (rowN R k).got = true) (h0 : 0 < L.length) : foF min (L.map (fun j => (rowN R j).got)) L.length = meets R L := by
 cases L with
 | nil => cases h0
 | cons k t =>
  have := foF_fold (f := min) (fun x => by omega) (r := (rowN R k).got) (rs := t.map (fun j => (rowN R j).got)) (hL k List.mem_cons_self) t.length (by simp)
  rw [List.map_cons,List.length_cons,this,List.take_of_length_le (by simp),List.foldl_map]
  rfl
def gotsOf (R : List Rw) (L : List Nat) (k : Nat) : List (List Int) := (L.take k).map (fun j => (rowN R j).got)
theorem gotsOf_next (R : List Rw) {L : List Nat} {k : Nat} (hk : k < L.length) : gotsOf R L (k + 1) = gotsOf R L k ++ [(rowN R (L.getD k 0)).got] := by
 unfold gotsOf
 rw [List.take_succ_eq_append_getElem hk,List.map_append]
 simp [List.getD,hk]
theorem gotsOf_len (R : List Rw) {L : List Nat} {k : Nat} (hk : k ≤ L.length) : (gotsOf R L k).length = k := by
 unfold gotsOf
 rw [List.length_map,List.length_take]
 omega
theorem gotsOf_all (R : List Rw) (L : List Nat) : gotsOf R L L.length = L.map (fun j => (rowN R j).got) := by rw [gotsOf,List.take_length]
theorem best_next (R : List Rw) {L : List Nat} {k : Nat} (hk : k < L.length) (a : Int × List Int) : best R (L.take (k + 1)) a = if (rowN R (L.getD k 0)).rdy = true ∧ (best R (L.take k) a).1 < (rowN R (L.getD k 0)).by_ then ((rowN R (L.getD k 0)).by_,(rowN R (L.getD k 0)).trm) else best R (L.take k) a := by
 have e : L.getD k 0 = L[k] := by simp [List.getD,hk]
 unfold best
 rw [List.take_succ_eq_append_getElem hk,List.foldl_append,e]
 rfl
def LastOk (X : World) (b : Int × List Int) (rd : Bool) (x7 : Value) : Prop := rd = decide (0 ≤ b.1) ∧ (rd = true → ∃ ta tc,x7 = .slice ta b.2.length tc ∧ Vec X ta b.2.length b.2)
def TrmR (w w' : World) (e : Ending) (T : List Int) : Prop := ∃ ta tc,e = .returned (.slice ta T.length tc) ∧ Vec w' ta T.length T ∧ Below w.heap.size w w'
theorem evR_gots {m : Mb} {i n : Nat} (ok : OkW m i n) {L : List Nat} (hL : ∀ k ∈ L,k < n) : EvR (L.map (fun j => (rowN m.rows j).got)) := by
 have key : ∀ k,k < L.length → okB (row (L.map (fun j => (rowN m.rows j).got)) k) = true ∧ (row (L.map (fun j => (rowN m.rows j).got)) k).length = n := fun k hk => by
  have e : row (L.map (fun j => (rowN m.rows j).got)) k = (rowN m.rows L[k]).got := by simp [row,List.getD,hk]
  have h := ok.ok L[k] (hL _ (List.getElem_mem hk))
  rw [e]
  exact ⟨h.got,h.gl⟩
 intro k hk
 rw [List.length_map] at hk
 exact ⟨(key k hk).1,(key k hk).2.trans (key 0 (by omega)).2.symm⟩
set_option maxRecDepth 100000 in
set_option maxHeartbeats 3200000 in
theorem tri_any (w0 : World) (B : Nat) (m : Mb) (i n : Nat) (fp : Fp) (g off c : Nat) (X : World) (M : Iw w0 X B m fp g off c) (ok : OkW m i n) (L : List Nat) (la : Option Addr) (lc : Nat) (hv : Vec X la (lN L).length (lN L)) (hLn : ∀ k ∈ L,k < n) (hLL : L.length ≤ 5) (hL0 : 0 < L.length) :
  Calls Tryz.prog 180 #[.pointer (some ⟨B,0,none⟩),.slice la L.length lc] X fun e w' => TrmR X w' e (endOf m.rows L) := by
 obtain ⟨i1,hi1,hy0,hy1,hy2⟩ := info_parts2n infoSl10
 have hn5 := ok.n5
 have HM : Hid (Iw w0 X B m fp g off c) := M
 have HLn : Hid (m.rows.length = n) := ok.len
 have hml : m.rows.length ≤ 5 := by rw [ok.len];exact hn5.2
 have HOk : Hid (∀ k,k < n → OkR (rowN m.rows k) n) := ok.ok
 have HFm : Hid (FitM m) := ok.fit
 have HL : Hid (∀ k ∈ L,k < n) := hLn
 have HV : Hid (Vec X la (lN L).length (lN L)) := hv
 have HEv : Hid (EvR (L.map (fun j => (rowN m.rows j).got))) := evR_gots ok hLn
 have HMe : Hid (foF min (L.map (fun j => (rowN m.rows j).got)) L.length = meets m.rows L) := foF_meets m.rows (fun k hk => (ok.ok k (hLn k hk)).got) hL0
 have HFz : Hid (Fits (meets m.rows L)) := by
  obtain ⟨h1,h2⟩ := meets_spec (R := m.rows) hn5 (L := L) (by intro e;rw [e] at hL0;cases hL0) (fun k hk => by
   have h := ok.ok k (hLn k hk)
   exact ⟨h.gl,(small_iff h.n5 h.gl).1 ⟨h.got,h.g12⟩⟩)
  intro x hx
  obtain ⟨j,hj,rfl⟩ := el_mem10.1 hx
  have := h2 j (by omega)
  obtain ⟨q1,_,q,hq,q2⟩ := this
  have hh := ok.ok q (hLn q hq)
  have := (small_iff hh.n5 hh.gl).1 ⟨hh.got,hh.g12⟩ j (by omega)
  omega
 have hb0 : Below X.heap.size X ((X.alloc (.cells #[] 25)).alloc (.cells #[.int .i64 0,.slice none 0 0,.slice none 0 0,.slice none 0 0,.bool false,.bool false,.int .i64 (-1),.slice none 0 0] 37)) := (oneA16 X _).trans ((oneA16 _ _).mono (oneA16 X _).size)
 have hx0 : Bx ((X.alloc (.cells #[] 25)).alloc (.cells #[.int .i64 0,.slice none 0 0,.slice none 0 0,.slice none 0 0,.bool false,.bool false,.int .i64 (-1),.slice none 0 0] 37)) (X.heap.size + 1) 37 #[.int .i64 0,.slice none 0 0,.slice none 0 0,.slice none 0 0,.bool false,.bool false,.int .i64 (-1),.slice none 0 0] := by
  have := Bx.new (X.alloc (.cells #[] 25)) 37 #[.int .i64 0,.slice none 0 0,.slice none 0 0,.slice none 0 0,.bool false,.bool false,.int .i64 (-1),.slice none 0 0]
  simp only [World.size_alloc] at this
  exact this
 have hE0 : OSl ((X.alloc (.cells #[] 25)).alloc (.cells #[.int .i64 0,.slice none 0 0,.slice none 0 0,.slice none 0 0,.bool false,.bool false,.int .i64 (-1),.slice none 0 0] 37)) 1 X.heap.size 0 0 0 [] := OSl.below (⟨rfl,Nat.le_refl _,Nat.zero_le _,by simp,fun i hi => by omega,fun i hi => by omega,fun i hi => by omega⟩ : OSl (X.alloc (.cells #[] 25)) 1 X.heap.size 0 0 0 []) ((Below.refl _ _).alloc (Nat.le_refl _) _) (by simp)
 have HB0 : Hid (Below X.heap.size X ((X.alloc (.cells #[] 25)).alloc (.cells #[.int .i64 0,.slice none 0 0,.slice none 0 0,.slice none 0 0,.bool false,.bool false,.int .i64 (-1),.slice none 0 0] 37))) := hb0
 have HX0 : Hid (Bx ((X.alloc (.cells #[] 25)).alloc (.cells #[.int .i64 0,.slice none 0 0,.slice none 0 0,.slice none 0 0,.bool false,.bool false,.int .i64 (-1),.slice none 0 0] 37)) (X.heap.size + 1) 37 #[.int .i64 0,.slice none 0 0,.slice none 0 0,.slice none 0 0,.bool false,.bool false,.int .i64 (-1),.slice none 0 0]) := hx0
 have HE0 : Hid (OSl ((X.alloc (.cells #[] 25)).alloc (.cells #[.int .i64 0,.slice none 0 0,.slice none 0 0,.slice none 0 0,.bool false,.bool false,.int .i64 (-1),.slice none 0 0] 37)) 1 X.heap.size 0 0 0 []) := hE0
 clear M hv hLn hb0 hx0 hE0
 go_enter Tryz.func180,Tryz.ntmps180
 go_wp2_with fail
 generalize (X.alloc (.cells #[] 25)).alloc (.cells #[.int .i64 0,.slice none 0 0,.slice none 0 0,.slice none 0 0,.bool false,.bool false,.int .i64 (-1),.slice none 0 0] 37) = W0 at *
 go_loopw [6,14] (fun v i wr => ∃ (k gg og cg : Nat) (vs : List Value) (b : Int × List Int) (x0 x1 x2 x3 x4 x7 : Value) (rd : Bool),k ≤ L.length ∧ i = .int .i64 (k : Int) ∧ v = .slice (some ⟨gg,og,none⟩) (gotsOf m.rows L k).length cg ∧ X.heap.size ≤ gg ∧ gg ≠ X.heap.size + 1 ∧ OSl wr 1 gg og (gotsOf m.rows L k).length cg vs ∧ SvR X (gotsOf m.rows L k) vs ∧ Hid (b = best m.rows (L.take k) (-1,[])) ∧ Hid (LastOk X b rd x7) ∧ Bx wr (X.heap.size + 1) 37 #[x0,x1,x2,x3,x4,.bool rd,.int .i64 b.1,x7] ∧ Below X.heap.size X wr) (fun _ i _ => L.length - (intOf i).toNat)
 case atStart => exact ⟨0,X.heap.size,0,0,[],(-1,[]),_,_,_,_,_,_,_,Nat.zero_le _,rfl,rfl,Nat.le_refl _,by omega,HE0.out,⟨rfl,fun i hi => by simp [gotsOf] at hi⟩,rfl,⟨rfl,fun h => by cases h⟩,HX0.out,HB0.out⟩
 case round =>
  obtain ⟨k,gg,og,cg,vs,b,x0,x1,x2,x3,x4,x7,rd,hk,rfl,rfl,hg1,hg2,hO,hS,hBe,hLa,hxl,hb⟩ := hrel
  have LO : Hid (OSl wr 1 gg og (gotsOf m.rows L k).length cg vs) := hO
  have LS : Hid (SvR X (gotsOf m.rows L k) vs) := hS
  have LB : Hid (Below X.heap.size X wr) := hb
  have LG : Hid (X.heap.size ≤ gg ∧ gg ≠ X.heap.size + 1) := ⟨hg1,hg2⟩
  have LXl : Hid (Bx wr (X.heap.size + 1) 37 #[x0,x1,x2,x3,x4,.bool rd,.int .i64 b.1,x7]) := hxl
  have LLE : (gotsOf m.rows L k).length ≤ 5 := by rw [gotsOf_len m.rows hk];omega
  clear hO hS hg1 hg2 HB0 HX0 HE0
  by_cases hlt : k < L.length
  ·have hJn : L.getD k 0 < n := HL.out _ (getD_memN hlt)
   have hJl : L.getD k 0 < m.rows.length := by rw [HLn.out];exact hJn
   rcases (HV.out.below hb (Nat.le_refl _)).2.2 with hz | ⟨lb,lo,hla,hlc⟩
   ·rw [lN_len] at hz;omega
   have hlk := hlc k (by rw [lN_len];exact hlt)
   rw [el_lN hlt] at hlk
   obtain ⟨AJ0,_,hrs0⟩ := HM.out.row HFm.out hJl
   obtain ⟨AJ,⟨⟨d0,d1,d2,d3⟩,d4,d5,d6,d7⟩,hrs,hkg,_⟩ := (HM.out.step hb).rowK HFm.out hJl
   have crw := (HM.out.step hb).rws
   have HGn : Hid (gotsOf m.rows L (k + 1) = gotsOf m.rows L k ++ [(rowN m.rows (L.getD k 0)).got]) := gotsOf_next m.rows hlt
   have HBn : Hid (best m.rows (L.take (k + 1)) (-1,[]) = if (rowN m.rows (L.getD k 0)).rdy = true ∧ b.1 < (rowN m.rows (L.getD k 0)).by_ then ((rowN m.rows (L.getD k 0)).by_,(rowN m.rows (L.getD k 0)).trm) else b) := by
    have := best_next m.rows hlt (-1,[])
    rw [← hBe.out] at this
    exact this
   have hokr := HOk.out _ hJn
   have HR0 : Hid ((rowN m.rows (L.getD k 0)).rdy = true → 0 ≤ (rowN m.rows (L.getD k 0)).by_) := fun h => (hokr.rdy h).2.1.1
   generalize L.getD k 0 = J at *
   have k1 : (k : Int) < (L.length : Int) := by omega
   have k0 : (0 : Int) ≤ (k : Int) := by omega
   have J0 : (0 : Int) ≤ (J : Int) := by omega
   have J1 : (J : Int) < (m.rows.length : Int) := by omega
   have HVg : Hid (Vec X AJ.ga (rowN m.rows J).got.length (rowN m.rows J).got ∧ Vec X AJ.ma (rowN m.rows J).trm.length (rowN m.rows J).trm) := by
    obtain ⟨AK,⟨⟨q0,q1,q2,q3⟩,q4,q5,q6,q7⟩,hrk⟩ := HM.out.row HFm.out hJl
    have t : ∀ {x v},X.cell? x = some v → wr.cell? x = some v := fun h => (hb.cell (World.block_lt_of_cell? _ _ h)).trans h
    have e2 := Option.some.inj (d2.symm.trans (t q2))
    have e7 := Option.some.inj (d7.symm.trans (t q7))
    simp only [Value.slice.injEq] at e2 e7
    rw [e2.1,e7.1]
    exact ⟨hrk.got,hrk.trm⟩
   have hmg := hrs.mg
   have HMg : Hid ((rowN m.rows J).got.length ≤ AJ.gc ∧ AJ.gc ≤ maxLen) := hkg
   clear hokr hrs hrs0 hkg
   generalize rowN m.rows J = r at *
   have hba := oneA16 wr (.cells #[.int .i64 r.ver,.slice AJ.ta r.txt.length AJ.tc,.slice AJ.ga r.got.length AJ.gc,.slice AJ.sa r.sus.length AJ.sc,.bool r.wed,.bool r.rdy,.int .i64 r.by_,.slice AJ.ma r.trm.length AJ.mc] 37)
   have hxr := Bx.new wr 37 #[.int .i64 r.ver,.slice AJ.ta r.txt.length AJ.tc,.slice AJ.ga r.got.length AJ.gc,.slice AJ.sa r.sus.length AJ.sc,.bool r.wed,.bool r.rdy,.int .i64 r.by_,.slice AJ.ma r.trm.length AJ.mc]
   have HBa : Hid (Below wr.heap.size wr (wr.alloc (.cells #[.int .i64 r.ver,.slice AJ.ta r.txt.length AJ.tc,.slice AJ.ga r.got.length AJ.gc,.slice AJ.sa r.sus.length AJ.sc,.bool r.wed,.bool r.rdy,.int .i64 r.by_,.slice AJ.ma r.trm.length AJ.mc] 37))) := hba
   have hrl : wr.heap.size ≠ X.heap.size + 1 := by have := hxl.lt;omega
   have HXr : Hid (Bx (wr.alloc (.cells #[.int .i64 r.ver,.slice AJ.ta r.txt.length AJ.tc,.slice AJ.ga r.got.length AJ.gc,.slice AJ.sa r.sus.length AJ.sc,.bool r.wed,.bool r.rdy,.int .i64 r.by_,.slice AJ.ma r.trm.length AJ.mc] 37)) wr.heap.size 37 #[.int .i64 r.ver,.slice AJ.ta r.txt.length AJ.tc,.slice AJ.ga r.got.length AJ.gc,.slice AJ.sa r.sus.length AJ.sc,.bool r.wed,.bool r.rdy,.int .i64 r.by_,.slice AJ.ma r.trm.length AJ.mc]) := hxr
   have HXl : Hid (Bx (wr.alloc (.cells #[.int .i64 r.ver,.slice AJ.ta r.txt.length AJ.tc,.slice AJ.ga r.got.length AJ.gc,.slice AJ.sa r.sus.length AJ.sc,.bool r.wed,.bool r.rdy,.int .i64 r.by_,.slice AJ.ma r.trm.length AJ.mc] 37)) (X.heap.size + 1) 37 #[x0,x1,x2,x3,x4,.bool rd,.int .i64 b.1,x7]) := hxl.below hba
   have LO5 : Hid (OSl (wr.alloc (.cells #[.int .i64 r.ver,.slice AJ.ta r.txt.length AJ.tc,.slice AJ.ga r.got.length AJ.gc,.slice AJ.sa r.sus.length AJ.sc,.bool r.wed,.bool r.rdy,.int .i64 r.by_,.slice AJ.ma r.trm.length AJ.mc] 37)) 1 gg og (gotsOf m.rows L k).length cg vs) := OSl.below LO.out hba LO.out.blk
   have LB5 : Hid (Below X.heap.size X (wr.alloc (.cells #[.int .i64 r.ver,.slice AJ.ta r.txt.length AJ.tc,.slice AJ.ga r.got.length AJ.gc,.slice AJ.sa r.sus.length AJ.sc,.bool r.wed,.bool r.rdy,.int .i64 r.by_,.slice AJ.ma r.trm.length AJ.mc] 37))) := LB.out.trans (hba.mono LB.out.size)
   rw [hla]
   have HLA : Hid (la = some ⟨lb,lo,none⟩) := hla
   clear hlc hba hxr hla hxl hb
   go_upto_region 6 with fail
   generalize wr.alloc (.cells #[.int .i64 r.ver,.slice AJ.ta r.txt.length AJ.tc,.slice AJ.ga r.got.length AJ.gc,.slice AJ.sa r.sus.length AJ.sc,.bool r.wed,.bool r.rdy,.int .i64 r.by_,.slice AJ.ma r.trm.length AJ.mc] 37) = W5 at *
   clear d0 d1 d2 d3 d4 d5 d6 d7 crw hlk
   obtain ⟨⟨_,_,p2,_⟩,_,p5,p6,_⟩ := Bx.r8 HXr.out
   have z6 := HXl.out.at 6 (v := .int .i64 b.1) rfl
   generalize wr.heap.size = RB at *
   by_cases hc : r.rdy = true ∧ b.1 < r.by_
   ·have HBN : Hid ((r.by_,r.trm) = best m.rows (L.take (k + 1)) (-1,[])) := by rw [Hid,HBn.out,if_pos hc]
    obtain ⟨hrd,hgt⟩ := hc
    have HR1 : Hid (0 ≤ r.by_) := HR0.out hrd
    rw [hrd] at p5
    obtain ⟨⟨s0,s1,s2,s3⟩,s4,s5,s6,s7⟩ := Bx.r8 HXr.out
    obtain ⟨⟨f0,f1,f2,f3,f4⟩,f5,f6,f7⟩ : (W5.frozen? ⟨X.heap.size + 1,0,none⟩ = false ∧ W5.frozen? ⟨X.heap.size + 1,1,none⟩ = false ∧ W5.frozen? ⟨X.heap.size + 1,2,none⟩ = false ∧ W5.frozen? ⟨X.heap.size + 1,3,none⟩ = false ∧ W5.frozen? ⟨X.heap.size + 1,4,none⟩ = false) ∧ W5.frozen? ⟨X.heap.size + 1,5,none⟩ = false ∧ W5.frozen? ⟨X.heap.size + 1,6,none⟩ = false ∧ W5.frozen? ⟨X.heap.size + 1,7,none⟩ = false := ⟨HXl.out.f5,HXl.out.f 5,HXl.out.f 6,HXl.out.f 7⟩
    obtain ⟨⟨y0,y1,y2,y3⟩,y4,y5,y6,y7⟩ := Bx.r8 HXl.out
    rw [hrd] at s5
    have gt1 : r.by_ > b.1 := hgt
    clear hgt HBn z6 p2 p6 p5
    have HXr6 : Hid (Bx ((((((((W5.setCell ⟨X.heap.size + 1,0,none⟩ (.int .i64 r.ver)).setCell ⟨X.heap.size + 1,1,none⟩ (.slice AJ.ta r.txt.length AJ.tc)).setCell ⟨X.heap.size + 1,2,none⟩ (.slice AJ.ga r.got.length AJ.gc)).setCell ⟨X.heap.size + 1,3,none⟩ (.slice AJ.sa r.sus.length AJ.sc)).setCell ⟨X.heap.size + 1,4,none⟩ (.bool r.wed)).setCell ⟨X.heap.size + 1,5,none⟩ (.bool true)).setCell ⟨X.heap.size + 1,6,none⟩ (.int .i64 r.by_)).setCell ⟨X.heap.size + 1,7,none⟩ (.slice AJ.ma r.trm.length AJ.mc)) RB 37 #[.int .i64 r.ver,.slice AJ.ta r.txt.length AJ.tc,.slice AJ.ga r.got.length AJ.gc,.slice AJ.sa r.sus.length AJ.sc,.bool r.wed,.bool r.rdy,.int .i64 r.by_,.slice AJ.ma r.trm.length AJ.mc]) := (((((((HXr.out.far hrl _).far hrl _).far hrl _).far hrl _).far hrl _).far hrl _).far hrl _).far hrl _
    have HXl6 : Hid (Bx ((((((((W5.setCell ⟨X.heap.size + 1,0,none⟩ (.int .i64 r.ver)).setCell ⟨X.heap.size + 1,1,none⟩ (.slice AJ.ta r.txt.length AJ.tc)).setCell ⟨X.heap.size + 1,2,none⟩ (.slice AJ.ga r.got.length AJ.gc)).setCell ⟨X.heap.size + 1,3,none⟩ (.slice AJ.sa r.sus.length AJ.sc)).setCell ⟨X.heap.size + 1,4,none⟩ (.bool r.wed)).setCell ⟨X.heap.size + 1,5,none⟩ (.bool true)).setCell ⟨X.heap.size + 1,6,none⟩ (.int .i64 r.by_)).setCell ⟨X.heap.size + 1,7,none⟩ (.slice AJ.ma r.trm.length AJ.mc)) (X.heap.size + 1) 37 #[.int .i64 r.ver,.slice AJ.ta r.txt.length AJ.tc,.slice AJ.ga r.got.length AJ.gc,.slice AJ.sa r.sus.length AJ.sc,.bool r.wed,.bool true,.int .i64 r.by_,.slice AJ.ma r.trm.length AJ.mc]) := bx_set8 HXl.out
    have LO6 : Hid (OSl ((((((((W5.setCell ⟨X.heap.size + 1,0,none⟩ (.int .i64 r.ver)).setCell ⟨X.heap.size + 1,1,none⟩ (.slice AJ.ta r.txt.length AJ.tc)).setCell ⟨X.heap.size + 1,2,none⟩ (.slice AJ.ga r.got.length AJ.gc)).setCell ⟨X.heap.size + 1,3,none⟩ (.slice AJ.sa r.sus.length AJ.sc)).setCell ⟨X.heap.size + 1,4,none⟩ (.bool r.wed)).setCell ⟨X.heap.size + 1,5,none⟩ (.bool true)).setCell ⟨X.heap.size + 1,6,none⟩ (.int .i64 r.by_)).setCell ⟨X.heap.size + 1,7,none⟩ (.slice AJ.ma r.trm.length AJ.mc)) 1 gg og (gotsOf m.rows L k).length cg vs) := osl_far (osl_far (osl_far (osl_far (osl_far (osl_far (osl_far (osl_far LO5.out LG.out.2 _) LG.out.2 _) LG.out.2 _) LG.out.2 _) LG.out.2 _) LG.out.2 _) LG.out.2 _) LG.out.2 _
    have LB6 : Hid (Below X.heap.size X ((((((((W5.setCell ⟨X.heap.size + 1,0,none⟩ (.int .i64 r.ver)).setCell ⟨X.heap.size + 1,1,none⟩ (.slice AJ.ta r.txt.length AJ.tc)).setCell ⟨X.heap.size + 1,2,none⟩ (.slice AJ.ga r.got.length AJ.gc)).setCell ⟨X.heap.size + 1,3,none⟩ (.slice AJ.sa r.sus.length AJ.sc)).setCell ⟨X.heap.size + 1,4,none⟩ (.bool r.wed)).setCell ⟨X.heap.size + 1,5,none⟩ (.bool true)).setCell ⟨X.heap.size + 1,6,none⟩ (.int .i64 r.by_)).setCell ⟨X.heap.size + 1,7,none⟩ (.slice AJ.ma r.trm.length AJ.mc))) := by
     have := Nat.le_succ X.heap.size
     exact (((((((LB5.out.setCell (p := ⟨X.heap.size + 1,0,none⟩) this _).setCell (p := ⟨X.heap.size + 1,1,none⟩) this _).setCell (p := ⟨X.heap.size + 1,2,none⟩) this _).setCell (p := ⟨X.heap.size + 1,3,none⟩) this _).setCell (p := ⟨X.heap.size + 1,4,none⟩) this _).setCell (p := ⟨X.heap.size + 1,5,none⟩) this _).setCell (p := ⟨X.heap.size + 1,6,none⟩) this _).setCell (p := ⟨X.heap.size + 1,7,none⟩) this _
    have p2 := (Bx.r8 HXr6.out).1.2.2.1
    go_upto_region 8 with fail
    clear s0 s1 s2 s3 s4 s5 s6 s7 f0 f1 f2 f3 f4 f5 f6 f7 y0 y1 y2 y3 y4 y5 y6 y7
    generalize ((((((((W5.setCell ⟨X.heap.size + 1,0,none⟩ (.int .i64 r.ver)).setCell ⟨X.heap.size + 1,1,none⟩ (.slice AJ.ta r.txt.length AJ.tc)).setCell ⟨X.heap.size + 1,2,none⟩ (.slice AJ.ga r.got.length AJ.gc)).setCell ⟨X.heap.size + 1,3,none⟩ (.slice AJ.sa r.sus.length AJ.sc)).setCell ⟨X.heap.size + 1,4,none⟩ (.bool r.wed)).setCell ⟨X.heap.size + 1,5,none⟩ (.bool true)).setCell ⟨X.heap.size + 1,6,none⟩ (.int .i64 r.by_)).setCell ⟨X.heap.size + 1,7,none⟩ (.slice AJ.ma r.trm.length AJ.mc)) = W6 at *
    have hO2 : OSl (W6.alloc (.cells #[.slice AJ.ga r.got.length AJ.gc] 25)) 1 gg og (gotsOf m.rows L k).length cg vs := OSl.below LO6.out ((Below.refl _ _).alloc (Nat.le_refl _) _) LO6.out.blk
    go_wp2_with (at_builtin;refine wpList_append_os _ rfl _ _ _ rfl 25 i1 _ 1 24 Tryz.underlying207 hi1 hy0 hy1 hy2 rfl (by omega) gg og (gotsOf m.rows L k).length cg vs rfl hO2 ⟨W6.heap.size,0,none⟩ 1 1 [.slice AJ.ga r.got.length AJ.gc] rfl rfl (World.news_of_block (cs := #[.slice AJ.ga r.got.length AJ.gc]) (t := 25) (fr := (0,0)) (heap_alloc_new _ _)) (by simp [Value.oneCell']) (by unfold maxLen;omega) (by omega) ?_;intro g6 o6 c6 w6 hO6 hg6 hat6)
    have hWs : (W6.alloc (.cells #[.slice AJ.ga r.got.length AJ.gc] 25)).heap.size = W6.heap.size + 1 := by simp
    have hXW := LB6.out.size
    have hlt6 := HXl6.out.lt
    have hgb := LG.out
    have NG : Hid (X.heap.size ≤ g6 ∧ g6 ≠ X.heap.size + 1) := by
     rcases hat6 with h | h
     ·rw [h];exact LG.out
     ·rw [h,hWs];exact ⟨by omega,by omega⟩
    have NO : Hid (OSl w6 1 g6 o6 ((gotsOf m.rows L k).length + 1) c6 (vs ++ [.slice AJ.ga r.got.length AJ.gc])) := hO6
    have NB : Hid (Below X.heap.size X w6) := below_grown6 (LB6.out.alloc LB6.out.size _) hg6 LG.out.1 (Nat.le_trans LB6.out.size (by simp))
    have NXl : Hid (Bx w6 (X.heap.size + 1) 37 #[.int .i64 r.ver,.slice AJ.ta r.txt.length AJ.tc,.slice AJ.ga r.got.length AJ.gc,.slice AJ.sa r.sus.length AJ.sc,.bool r.wed,.bool true,.int .i64 r.by_,.slice AJ.ma r.trm.length AJ.mc]) := (hg6.block (X.heap.size + 1) (by omega) (by simp;exact fun e => LG.out.2 e.symm)).trans ((HXl6.out.alloc _))
    clear hO6 hg6 hat6 hO2 hWs hXW hlt6 hgb
    go_roundw
    case rel => exact ⟨k + 1,g6,o6,c6,vs ++ [.slice AJ.ga r.got.length AJ.gc],(r.by_,r.trm),_,_,_,_,_,_,true,by omega,by go_num,by rw [HGn.out,List.length_append];rfl,NG.out.1,NG.out.2,by rw [HGn.out,List.length_append];exact NO.out,by rw [HGn.out];exact LS.out.snoc HVg.out.1 HMg.out.1 HMg.out.2,HBN.out,⟨(decide_eq_true HR1.out).symm,fun _ => ⟨_,_,rfl,HVg.out.2⟩⟩,NXl.out,NB.out⟩
    case measure => simp [intOf];omega
   ·have HBN : Hid (b = best m.rows (L.take (k + 1)) (-1,[])) := by rw [Hid,HBn.out,if_neg hc]
    have LO6 := LO5
    have LB6 := LB5
    have HXl6 := HXl
    cases hrd : r.rdy with
    | false =>
     rw [hrd] at p5
     clear hc HBn HR0 hrd
     go_upto_region 8 with fail
     clear z6 p5 p6
     have hO2 : OSl (W5.alloc (.cells #[.slice AJ.ga r.got.length AJ.gc] 25)) 1 gg og (gotsOf m.rows L k).length cg vs := OSl.below LO6.out ((Below.refl _ _).alloc (Nat.le_refl _) _) LO6.out.blk
     go_wp2_with (at_builtin;refine wpList_append_os _ rfl _ _ _ rfl 25 i1 _ 1 24 Tryz.underlying207 hi1 hy0 hy1 hy2 rfl (by omega) gg og (gotsOf m.rows L k).length cg vs rfl hO2 ⟨W5.heap.size,0,none⟩ 1 1 [.slice AJ.ga r.got.length AJ.gc] rfl rfl (World.news_of_block (cs := #[.slice AJ.ga r.got.length AJ.gc]) (t := 25) (fr := (0,0)) (heap_alloc_new _ _)) (by simp [Value.oneCell']) (by unfold maxLen;omega) (by omega) ?_;intro g6 o6 c6 w6 hO6 hg6 hat6)
     have hWs : (W5.alloc (.cells #[.slice AJ.ga r.got.length AJ.gc] 25)).heap.size = W5.heap.size + 1 := by simp
     have hXW := LB6.out.size
     have hlt6 := HXl6.out.lt
     have hgb := LG.out
     have NG : Hid (X.heap.size ≤ g6 ∧ g6 ≠ X.heap.size + 1) := by
      rcases hat6 with h | h
      ·rw [h];exact LG.out
      ·rw [h,hWs];exact ⟨by omega,by omega⟩
     have NO : Hid (OSl w6 1 g6 o6 ((gotsOf m.rows L k).length + 1) c6 (vs ++ [.slice AJ.ga r.got.length AJ.gc])) := hO6
     have NB : Hid (Below X.heap.size X w6) := below_grown6 (LB6.out.alloc LB6.out.size _) hg6 LG.out.1 (Nat.le_trans LB6.out.size (by simp))
     have NXl : Hid (Bx w6 (X.heap.size + 1) 37 #[x0,x1,x2,x3,x4,.bool rd,.int .i64 b.1,x7]) := (hg6.block (X.heap.size + 1) (by omega) (by simp;exact fun e => LG.out.2 e.symm)).trans ((HXl6.out.alloc _))
     clear hO6 hg6 hat6 hO2 hWs hXW hlt6 hgb
     go_roundw
     case rel => exact ⟨k + 1,g6,o6,c6,vs ++ [.slice AJ.ga r.got.length AJ.gc],b,_,_,_,_,_,_,rd,by omega,by go_num,by rw [HGn.out,List.length_append];rfl,NG.out.1,NG.out.2,by rw [HGn.out,List.length_append];exact NO.out,by rw [HGn.out];exact LS.out.snoc HVg.out.1 HMg.out.1 HMg.out.2,HBN.out,hLa,NXl.out,NB.out⟩
     case measure => simp [intOf];omega
    | true =>
     rw [hrd] at p5
     have gt1 : ¬ r.by_ > b.1 := fun h => hc ⟨hrd,h⟩
     clear hc HBn HR0 hrd
     go_upto_region 8 with fail
     clear z6 p5 p6
     have hO2 : OSl (W5.alloc (.cells #[.slice AJ.ga r.got.length AJ.gc] 25)) 1 gg og (gotsOf m.rows L k).length cg vs := OSl.below LO6.out ((Below.refl _ _).alloc (Nat.le_refl _) _) LO6.out.blk
     go_wp2_with (at_builtin;refine wpList_append_os _ rfl _ _ _ rfl 25 i1 _ 1 24 Tryz.underlying207 hi1 hy0 hy1 hy2 rfl (by omega) gg og (gotsOf m.rows L k).length cg vs rfl hO2 ⟨W5.heap.size,0,none⟩ 1 1 [.slice AJ.ga r.got.length AJ.gc] rfl rfl (World.news_of_block (cs := #[.slice AJ.ga r.got.length AJ.gc]) (t := 25) (fr := (0,0)) (heap_alloc_new _ _)) (by simp [Value.oneCell']) (by unfold maxLen;omega) (by omega) ?_;intro g6 o6 c6 w6 hO6 hg6 hat6)
     have hWs : (W5.alloc (.cells #[.slice AJ.ga r.got.length AJ.gc] 25)).heap.size = W5.heap.size + 1 := by simp
     have hXW := LB6.out.size
     have hlt6 := HXl6.out.lt
     have hgb := LG.out
     have NG : Hid (X.heap.size ≤ g6 ∧ g6 ≠ X.heap.size + 1) := by
      rcases hat6 with h | h
      ·rw [h];exact LG.out
      ·rw [h,hWs];exact ⟨by omega,by omega⟩
     have NO : Hid (OSl w6 1 g6 o6 ((gotsOf m.rows L k).length + 1) c6 (vs ++ [.slice AJ.ga r.got.length AJ.gc])) := hO6
     have NB : Hid (Below X.heap.size X w6) := below_grown6 (LB6.out.alloc LB6.out.size _) hg6 LG.out.1 (Nat.le_trans LB6.out.size (by simp))
     have NXl : Hid (Bx w6 (X.heap.size + 1) 37 #[x0,x1,x2,x3,x4,.bool rd,.int .i64 b.1,x7]) := (hg6.block (X.heap.size + 1) (by omega) (by simp;exact fun e => LG.out.2 e.symm)).trans ((HXl6.out.alloc _))
     clear hO6 hg6 hat6 hO2 hWs hXW hlt6 hgb
     go_roundw
     case rel => exact ⟨k + 1,g6,o6,c6,vs ++ [.slice AJ.ga r.got.length AJ.gc],b,_,_,_,_,_,_,rd,by omega,by go_num,by rw [HGn.out,List.length_append];rfl,NG.out.1,NG.out.2,by rw [HGn.out,List.length_append];exact NO.out,by rw [HGn.out];exact LS.out.snoc HVg.out.1 HMg.out.1 HMg.out.2,HBN.out,hLa,NXl.out,NB.out⟩
     case measure => simp [intOf];omega
  ·have k1 : ¬ ((k : Int) < (L.length : Int)) := by omega
   obtain rfl : k = L.length := by omega
   rw [Hid,List.take_length] at hBe
   have z5 := hxl.at 5 (v := .bool rd) rfl
   have z7 := hxl.at 7 (v := x7) rfl
   cases rd with
   | true =>
    obtain ⟨ta,tc,rfl,hvt⟩ := hLa.out.2 rfl
    have h0 : 0 ≤ b.1 := of_decide_eq_true hLa.out.1.symm
    have HEn : Hid (endOf m.rows L = b.2) := by rw [Hid,endOf,← hBe,if_neg (by omega)]
    have HVt : Hid (Vec wr ta b.2.length b.2) := hvt.below LB.out (Nat.le_refl _)
    clear hxl hvt hBe hLa hb
    go_wp2
    go_ret
    rw [HEn.out]
    exact ⟨ta,tc,rfl,HVt.out,LB.out⟩
   | false =>
    have h0 : ¬ 0 ≤ b.1 := of_decide_eq_false hLa.out.1.symm
    have HEn : Hid (endOf m.rows L = meets m.rows L) := by rw [Hid,endOf,← hBe,if_pos (by omega)]
    have hvv := LS.out.vv LB.out LO.out
    rw [gotsOf_len m.rows (Nat.le_refl _)] at hvv ⊢
    rw [gotsOf_all] at hvv
    have hD := folded_any 200 min minOk (fun _ _ => enters_of Tryz.func200 (by kernel_rfl) rfl _ _) (fun a a' len cap len' cap' xs ys w => implMeet_any a a' len cap len' cap' xs ys w) (some ⟨gg,og,none⟩) L.length cg _ wr hvv (by omega) HEv.out
    rw [if_neg (by omega),HMe.out] at hD
    clear hxl hBe hLa hb hvv
    go_wp2_with (go_at_call 199;refine hD.mono ?_;rintro e w3 ⟨sg,so,sc,rfl,hsg,hOi,hb3⟩)
    have HF : Hid (Vec w3 (some ⟨sg,so,none⟩) (meets m.rows L).length (meets m.rows L) ∧ Below X.heap.size X w3) := ⟨vec_of_ow (ow_icl.2 ⟨_,sc,some sg,rfl,OSo.of hOi,fun b => Iff.rfl⟩) HFz.out,LB.out.trans (hb3.mono LB.out.size)⟩
    clear hOi hb3 hD
    go_wp2
    go_ret
    rw [HEn.out]
    exact ⟨_,_,rfl,HF.out⟩
end Go.Proofs.YtidnfdobljihoaaGreat
namespace Go.Proofs.YtidnfdobljihoaaGreat
set_option linter.unusedVariables false
set_option linter.unusedSimpArgs false
open Go.RowKit Go.Sort
set_option maxRecDepth 100000 in
set_option maxHeartbeats 1600000 in
theorem enf_any (w0 : World) (B : Nat) (m : Mb) (i n : Nat) (fp : Fp) (g off c : Nat) (X : World) (M : Iw w0 X B m fp g off c) (ok : OkW m i n) (L : List Nat) (la : Option Addr) (lc : Nat) (hv : Vec X la (lN L).length (lN L)) (hLn : ∀ k ∈ L,k < n) (hLL : L.length ≤ 5) (hL0 : 0 < L.length) :
  Calls Tryz.prog 146 #[.pointer (some ⟨B,0,none⟩),.slice la L.length lc] X fun e w' => e = .returned (.tuple #[]) ∧ Iw w0 w' B { m with rows := m.rows.set i (lead m.rows i (rowN m.rows i) L) } fp g off c := by
 have hmix := mixed17
 have hil : i < m.rows.length := by rw [ok.len];exact ok.lt
 have HM : Hid (Iw w0 X B m fp g off c) := M
 have HOk : Hid (OkW m i n) := ok
 have HV : Hid (Vec X la (lN L).length (lN L)) := hv
 have HL : Hid (∀ k ∈ L,k < n) := hLn
 have HSm : Hid (({ m with rows := m.rows.set i (rowN m.rows i) } : Mb) = m) := by rw [Hid,set_sameA (rowN_at hil)]
 obtain ⟨c0,_⟩ := M.id'
 rw [ok.hid] at c0
 have p0 : ∀ q : Bk X,q.w.cell? ⟨B,0,none⟩ = some (.int .i64 (i : Int)) := fun q => (q.h.cell (World.block_lt_of_cell? _ _ c0)).trans c0
 have hH := heb_any w0 B m i n (i : Int) fp g off c X M ok
 have hA : ∀ q : Bk X,Calls Tryz.prog 179 #[.pointer (some ⟨B,0,none⟩),.slice la L.length lc] q.w fun e w' => e = .returned (.bool (leadOk m.rows (rowN m.rows i) L)) ∧ Below q.w.heap.size q.w w' := fun q => awd_any w0 B m i n fp g off c q.w (HM.out.step q.h) HOk.out L la lc (HV.out.below q.h (Nat.le_refl _)) HL.out hLL
 have hTm : Hid ((endOf m.rows L).length ≤ 100 ∧ True) := by
  refine ⟨?_,trivial⟩
  unfold endOf
  have h5 := ok.n5
  split
  ·obtain ⟨h1,_⟩ := meets_spec (R := m.rows) h5 (L := L) (by intro e;rw [e] at hL0;cases hL0) (fun k hk => by
    have h := ok.ok k (hLn k hk)
    exact ⟨h.gl,(small_iff h.n5 h.gl).1 ⟨h.got,h.g12⟩⟩)
   omega
  ·rcases (best_spec m.rows L (-1,[])).1 with h | ⟨k,hk,hr,h⟩
   ·rw [h];simp
   ·rw [h]
    have h2 := ((ok.ok k (hLn k hk)).rdy hr).2.2.2.1
    simp only
    omega
 have HN : Hid (¬ ((!(rowN m.rows i).rdy || decide ((rowN m.rows i).by_ < (i : Int))) = true ∧ leadOk m.rows (rowN m.rows i) L = true) → lead m.rows i (rowN m.rows i) L = rowN m.rows i) := fun h => by
  unfold lead
  split
  ·rfl
  ·rename_i h1
   rw [if_neg]
   intro h2
   refine h ⟨?_,h2⟩
   cases hr : (rowN m.rows i).rdy with
   | false => rfl
   | true =>
    simp only [Bool.not_true,Bool.false_or,decide_eq_true_eq]
    rcases Int.lt_or_le (rowN m.rows i).by_ (i : Int) with h3 | h3
    ·exact h3
    ·exact absurd ⟨hr,h3⟩ h1
 have HY : Hid ((!(rowN m.rows i).rdy || decide ((rowN m.rows i).by_ < (i : Int))) = true → leadOk m.rows (rowN m.rows i) L = true → lead m.rows i (rowN m.rows i) L = { rowN m.rows i with rdy := true,by_ := (i : Int),trm := endOf m.rows L }) := fun h1 h2 => by
  unfold lead
  rw [if_neg,if_pos h2]
  rintro ⟨h3,h4⟩
  rw [h3] at h1
  simp only [Bool.not_true,Bool.false_or,decide_eq_true_eq] at h1
  omega
 generalize hhe : (!(rowN m.rows i).rdy || decide ((rowN m.rows i).by_ < (i : Int))) = he at *
 generalize hlo : leadOk m.rows (rowN m.rows i) L = lo at *
 clear M c0 hv hhe hlo
 cases he with
 | false =>
  have HE : Hid (lead m.rows i (rowN m.rows i) L = rowN m.rows i) := HN.out (fun h => by cases h.1)
  clear HN HY
  go_enter Tryz.func146,Tryz.ntmps146
  have p1 := p0 ⟨X,Below.refl _ _⟩
  simp only at p1
  clear p0 hA
  go_wp2_with (go_at_call 177;refine hH.mono ?_;rintro e w1 ⟨rfl,hb1⟩;have HB1 : Hid (Below X.heap.size X w1) := hb1;clear hb1 p1)
  first | go_end0 | go_ret
  exact ⟨rfl,by rw [HE.out,HSm.out];exact HM.out.step HB1.out⟩
 | true =>
 cases lo with
 | false =>
  have HE : Hid (lead m.rows i (rowN m.rows i) L = rowN m.rows i) := HN.out (fun h => by cases h.2)
  clear HN HY
  go_enter Tryz.func146,Tryz.ntmps146
  have p1 := p0 ⟨X,Below.refl _ _⟩
  simp only at p1
  go_wp2_with fail
  refine hH.mono ?_
  rintro e w1 ⟨rfl,hb1⟩
  have HB1 : Hid (Below X.heap.size X w1) := hb1
  have hA1 := hA ⟨w1,hb1⟩
  simp only at hA1
  clear hb1 p1 hA
  go_wp2_with fail
  refine hA1.mono ?_
  rintro e w2 ⟨rfl,hb2⟩
  have HB2 : Hid (Below w1.heap.size w1 w2) := hb2
  clear hb2 hA1
  go_wp2_with fail
  first | go_end0 | go_ret
  exact ⟨rfl,by rw [HE.out,HSm.out];exact (HM.out.step HB1.out).step HB2.out⟩
 | true =>
  have HE : Hid (lead m.rows i (rowN m.rows i) L = { rowN m.rows i with rdy := true,by_ := (i : Int),trm := endOf m.rows L }) := HY.out rfl rfl
  clear HN HY
  go_enter Tryz.func146,Tryz.ntmps146
  have p1 := p0 ⟨X,Below.refl _ _⟩
  simp only at p1
  go_wp2_with fail
  refine hH.mono ?_
  rintro e w1 ⟨rfl,hb1⟩
  have HB1 : Hid (Below X.heap.size X w1) := hb1
  have hA1 := hA ⟨w1,hb1⟩
  simp only at hA1
  clear hb1 p1 hA
  go_wp2_with fail
  refine hA1.mono ?_
  rintro e w2 ⟨rfl,hb2⟩
  have HB2 : Hid (Below w1.heap.size w1 w2) := hb2
  clear hb2 hA1
  go_upto_region 1 with fail
  have HBX : Hid (Below X.heap.size X w2) := HB1.out.trans (HB2.out.mono HB1.out.size)
  have hbd : Below w2.heap.size w2 w2.drew := (Same.drewN w2 1).below
  have KS : ∀ Z,Below w2.heap.size w2 Z → Z.cell? ⟨B,0,none⟩ = some (.int .i64 (i : Int)) := fun Z hZ => p0 ⟨Z,HBX.out.trans (hZ.mono HBX.out.size)⟩
  have HT := tri_any w0 B m i n fp g off c w2.drew ((HM.out.step HBX.out).step hbd) HOk.out L la lc ((HV.out.below HBX.out (Nat.le_refl _)).below hbd (Nat.le_refl _)) HL.out hLL hL0
  clear hH p0 HB1 HB2
  refine gt_begin (S := fun Z : World => Z.cell? ⟨B,0,none⟩ = some (.int .i64 (i : Int))) 9 hmix (by kernel_rfl) ?_
  have hHeld : (fun Z : World => Z.cell? ⟨B,0,none⟩ = some (.int .i64 (i : Int))) w2.drew := (KS _ hbd)
  refine gt_pure (i := 0) (v := ?_) rfl (by kernel_rfl) (by kernel_rfl) (by kernel_rfl) (fun _ _ _ h => h) (Or.inl ⟨by rfl, ?_⟩) ?_
  rotate_left
  ·(intro X;go_simp;try with_reducible rfl)
  try simp only [Act.put,List.setIfInBounds_toArray,List.set_cons_zero,List.set_cons_succ]
  refine gt_pure (i := 1) (v := ?_) rfl (by kernel_rfl) (by kernel_rfl) (by kernel_rfl) (fun _ _ _ h => h) (Or.inl ⟨by rfl, ?_⟩) ?_
  rotate_left
  ·(intro X;go_simp;try with_reducible rfl)
  try simp only [Act.put,List.setIfInBounds_toArray,List.set_cons_zero,List.set_cons_succ]
  refine gt_pure (i := 2) (v := ?_) rfl (by kernel_rfl) (by kernel_rfl) (by kernel_rfl) (fun _ _ _ h => h) (Or.inl ⟨by rfl, ?_⟩) ?_
  rotate_left
  ·(intro X;go_simp;try with_reducible rfl)
  try simp only [Act.put,List.setIfInBounds_toArray,List.set_cons_zero,List.set_cons_succ]
  refine gt_pure (i := 3) (v := ?_) rfl (by kernel_rfl) (by kernel_rfl) (by kernel_rfl) (fun _ _ _ h => h) (Or.inl ⟨by rfl, ?_⟩) ?_
  rotate_left
  ·(intro X;go_simp;try with_reducible rfl)
  try simp only [Act.put,List.setIfInBounds_toArray,List.set_cons_zero,List.set_cons_succ]
  refine gt_takeA (i := 4) (v := ?_) rfl (by kernel_rfl) (by kernel_rfl) (by kernel_rfl) (by kernel_rfl) (fun _ _ _ h => h) (Or.inl ⟨by rfl, ?_⟩) hHeld ?_
  rotate_left
  ·(intro X hSX;(try dsimp only at hSX);have g0 := hSX;go_simp;try with_reducible rfl)
  try simp only [Act.put,List.setIfInBounds_toArray,List.set_cons_zero,List.set_cons_succ]
  refine gt_pure (i := 5) (v := ?_) rfl (by kernel_rfl) (by kernel_rfl) (by kernel_rfl) (fun _ _ _ h => h) (Or.inl ⟨by rfl, ?_⟩) ?_
  rotate_left
  ·(intro X;go_simp;try with_reducible rfl)
  try simp only [Act.put,List.setIfInBounds_toArray,List.set_cons_zero,List.set_cons_succ]
  refine gt_pure (i := 6) (v := ?_) rfl (by kernel_rfl) (by kernel_rfl) (by kernel_rfl) (fun _ _ _ h => h) (Or.inl ⟨by rfl, ?_⟩) ?_
  rotate_left
  ·(intro X;go_simp;try with_reducible rfl)
  try simp only [Act.put,List.setIfInBounds_toArray,List.set_cons_zero,List.set_cons_succ]
  refine gt_one (i := 7) rfl (by kernel_rfl) (by kernel_rfl) (fun K hK => ?_)
  go_simp
  go_at_call 180
  refine HT.mono ?_
  rintro e w3 ⟨ta,tc,rfl,hvt,hb3⟩
  have hb23 : Below w2.heap.size w2 w3 := hbd.trans (hb3.mono hbd.size)
  have M3 := ((HM.out.step HBX.out).step hb23)
  have hEb := eby_any w0 B m i n (i : Int) (endOf m.rows L) ta tc fp g off c w3 M3 HOk.out hvt hTm.out.1
  refine hK.out _ _ (KS _ hb23) (fun hHeldN => ?_)
  clear hK hHeld
  have hHeld := hHeldN
  try simp only [Act.put,List.setIfInBounds_toArray,List.set_cons_zero,List.set_cons_succ]
  refine gt_one (i := 8) rfl (by kernel_rfl) (by kernel_rfl) (fun K hK => ?_)
  go_simp
  go_at_call 178
  refine hEb.mono ?_
  rintro e w4 ⟨rfl,hM4⟩
  have HM4 : Hid (Iw w0 w4 B { m with rows := m.rows.set i { rowN m.rows i with rdy := true,by_ := (i : Int),trm := endOf m.rows L } } fp g off c) := hM4
  have h40 : w4.cell? ⟨B,0,none⟩ = some (.int .i64 (i : Int)) := by
   have := hM4.id'.1
   simp only at this
   rw [HOk.out.hid] at this
   exact this
  refine hK.out _ _ h40 (fun hHeldN => ?_)
  clear hK hHeld
  have hHeld := hHeldN
  try simp only [Act.put,List.setIfInBounds_toArray,List.set_cons_zero,List.set_cons_succ]
  refine gt_end (by kernel_rfl) ?_
  clear hHeld hEb M3 hM4 h40 hvt hb3 hb23 HT KS hbd
  try go_wp2
  first | go_end0 | go_ret
  exact ⟨rfl,by rw [HE.out];exact HM4.out⟩
def agreeR (m : Mb) (i n : Nat) : Rw := if (leftN n (rowN m.rows i).sus).getD 0 0 ≠ i then adopt m.rows i (rowN m.rows i) ((leftN n (rowN m.rows i).sus).getD 0 0) else if n < 2 * (leftN n (rowN m.rows i).sus).length then lead m.rows i (rowN m.rows i) (leftN n (rowN m.rows i).sus) else rowN m.rows i
set_option maxRecDepth 100000 in
set_option maxHeartbeats 1600000 in
theorem agr_any (w0 : World) (B : Nat) (m : Mb) (i n : Nat) (fp : Fp) (g off c : Nat) (X : World) (M : Iw w0 X B m fp g off c) (ok : OkM m i n) :
  Calls Tryz.prog 85 #[.pointer (some ⟨B,0,none⟩)] X fun e w' => e = .returned (.tuple #[]) ∧ Iw w0 w' B { m with rows := m.rows.set i (agreeR m i n) } fp g off c := by
 have hil : i < m.rows.length := by rw [ok.len];exact ok.lt
 have hn5 := ok.n5
 have hL := lft_any w0 B m i n fp g off c X M ok
 have HM0 : Hid (Iw w0 X B m fp g off c) := M
 have HLn : Hid (∀ k ∈ leftN n (rowN m.rows i).sus,k < n) := fun k hk => (mem_leftN.1 hk).1
 have HLi : Hid (0 < (leftN n (rowN m.rows i).sus).length) := List.length_pos_of_mem (mem_leftN.2 ⟨ok.lt,ok.self⟩)
 have hLL := leftN_len n (rowN m.rows i).sus
 have HE : Hid (agreeR m i n = if (leftN n (rowN m.rows i).sus).getD 0 0 ≠ i then adopt m.rows i (rowN m.rows i) ((leftN n (rowN m.rows i).sus).getD 0 0) else if n < 2 * (leftN n (rowN m.rows i).sus).length then lead m.rows i (rowN m.rows i) (leftN n (rowN m.rows i).sus) else rowN m.rows i) := rfl
 have HSm : Hid (({ m with rows := m.rows.set i (rowN m.rows i) } : Mb) = m) := by rw [Hid,set_sameA (rowN_at hil)]
 generalize agreeR m i n = rE at *
 generalize hLe : leftN n (rowN m.rows i).sus = L at *
 have hL5 : L.length ≤ 5 := by omega
 clear hLe M
 go_enter Tryz.func85,Tryz.ntmps85
 go_wp2_with fail
 refine hL.mono ?_
 rintro e wl ⟨la,lc,rfl,fl,hl1,hl2,hl3⟩
 rw [lN_len] at hl1 ⊢
 have hLv : Vec wl la (lN L).length (lN L) := vec_of_ow (by rw [lN_len];exact hl1) (lN_fits HLn.out (by omega))
 have HLv : Hid (Vec wl la (lN L).length (lN L)) := hLv
 have HM1 : Hid (Iw w0 wl B m fp g off c) := HM0.out.step hl3
 obtain ⟨c0,_⟩ := HM1.out.id'
 rw [ok.hid] at c0
 have hMs := mst_any B m.rows.length c L.length lc (some ⟨g,off,none⟩) la wl HM1.out.rws (by omega) (by rw [ok.len];exact hn5.2)
 rw [ok.len] at hMs
 have hl0 := HLi.out
 rcases hLv.2.2 with hz | ⟨lb,lo,hla,hlc⟩
 ·rw [lN_len] at hz;omega
 have hlk := hlc 0 (by rw [lN_len];exact hl0)
 rw [el_lN hl0,Nat.add_zero] at hlk
 have HF : Hid (L.getD 0 0 < n) := HLn.out _ (getD_memN hl0)
 have hEs := eas_any w0 B m i n (L.getD 0 0) fp g off c wl HM1.out ok.okw HF.out
 have hEf := enf_any w0 B m i n fp g off c wl HM1.out ok.okw L la lc HLv.out HLn.out hL5 hl0
 generalize L.getD 0 0 = f at *
 have l1 : (0 : Int) < (L.length : Int) := by omega
 rw [hla] at hMs hEf ⊢
 clear hl1 hl2 hl3 hL HM0 hLv hlc hla
 by_cases hfi : f = i
 ·have e1 : ((f : Int) != (i : Int)) = false := by simp [hfi]
  by_cases hmj : n < 2 * L.length
  ·have HN : Hid (rE = lead m.rows i (rowN m.rows i) L) := by rw [Hid,HE.out,if_neg (by simp [hfi]),if_pos hmj]
   rw [decide_eq_true hmj] at hMs
   clear HE hfi hmj hEs
   go_wp2_with (first | (go_at_call 145;refine hMs.mono ?_;rintro e w' ⟨rfl,hw'⟩;rw [hw'];clear hw') | (go_at_call 146;refine hEf.mono ?_;rintro e w2 ⟨rfl,hM2⟩;have HM2 : Hid (Iw w0 w2 B { m with rows := m.rows.set i (lead m.rows i (rowN m.rows i) L) } fp g off c) := hM2;clear hM2))
   first | go_end0 | go_ret
   exact ⟨rfl,by rw [HN.out];exact HM2.out⟩
  ·have HN : Hid (rE = rowN m.rows i) := by rw [Hid,HE.out,if_neg (by simp [hfi]),if_neg hmj]
   rw [decide_eq_false hmj] at hMs
   clear HE hfi hmj hEs hEf
   go_wp2_with (go_at_call 145;refine hMs.mono ?_;rintro e w' ⟨rfl,hw'⟩;rw [hw'];clear hw')
   first | go_end0 | go_ret
   exact ⟨rfl,by rw [HN.out,HSm.out];exact HM1.out⟩
 ·have e1 : ((f : Int) != (i : Int)) = true := by simp;omega
  have HN : Hid (rE = adopt m.rows i (rowN m.rows i) f) := by rw [Hid,HE.out,if_pos hfi]
  clear HE hfi hMs hEf
  go_wp2_with (go_at_call 144;refine hEs.mono ?_;rintro e w2 ⟨rfl,hM2⟩;have HM2 : Hid (Iw w0 w2 B { m with rows := m.rows.set i (adopt m.rows i (rowN m.rows i) f) } fp g off c) := hM2;clear hM2)
  first | go_end0 | go_ret
  exact ⟨rfl,by rw [HN.out];exact HM2.out⟩
end Go.Proofs.YtidnfdobljihoaaGreat
namespace Go.Proofs.YtidnfdobljihoaaGreat
set_option linter.unusedVariables false
set_option linter.unusedSimpArgs false
open Go.RowKit Go.Sort
set_option maxRecDepth 100000 in
set_option maxHeartbeats 1600000 in
theorem alk0 (pA pB pC pD qA qB qC qD : Option Addr) (pt pg ps pm pa pb pc pe qt qg qs qm qa qb qc qe : Nat) (v py qy : Int) (pw pd qw qd b3 : Bool) (w W : World) (hW : (w.alloc (.cells #[.int .i64 v,.slice pA pt pa,.slice pB pg pb,.slice pC ps pc,.bool pw,.bool pd,.int .i64 py,.slice pD pm pe] 37)).alloc (.cells #[.int .i64 v,.slice qA qt qa,.slice qB qg qb,.slice qC qs qc,.bool qw,.bool qd,.int .i64 qy,.slice qD qm qe] 37) = W) (hx : Bx W w.heap.size 37 #[.int .i64 v,.slice pA pt pa,.slice pB pg pb,.slice pC ps pc,.bool pw,.bool pd,.int .i64 py,.slice pD pm pe]) (hy : Bx W (w.heap.size + 1) 37 #[.int .i64 v,.slice qA qt qa,.slice qB qg qb,.slice qC qs qc,.bool qw,.bool qd,.int .i64 qy,.slice qD qm qe]) (hB : Below w.heap.size w W) (e1 : (pw == qw) = false) :
  Calls Tryz.prog 89 #[.agg #[.int .i64 v,.slice pA pt pa,.slice pB pg pb,.slice pC ps pc,.bool pw,.bool pd,.int .i64 py,.slice pD pm pe],.agg #[.int .i64 v,.slice qA qt qa,.slice qB qg qb,.slice qC qs qc,.bool qw,.bool qd,.int .i64 qy,.slice qD qm qe]] w fun e w' => e = .returned (.bool false) ∧ Below w.heap.size w w' := by
 obtain ⟨⟨c0,c1,c2,c3⟩,c4,c5,c6,c7⟩ := Bx.r8 hx
 obtain ⟨⟨d0,d1,d2,d3⟩,d4,d5,d6,d7⟩ := Bx.r8 hy
 have HB : Hid (Below w.heap.size w W) := hB
 have e0 : (v == v) = true := by simp
 clear hx hy hB
 go_enter Tryz.func89,Tryz.ntmps89
 go_upto_region 1 with fail
 try rw [hW]
 clear hW
 go_wp2_with fail
 go_ret
 exact ⟨rfl,by first | exact HB.out | exact belowN HB.out⟩
set_option maxRecDepth 100000 in
set_option maxHeartbeats 1600000 in
theorem alk1 (pA pB pC pD qA qB qC qD : Option Addr) (pt pg ps pm pa pb pc pe qt qg qs qm qa qb qc qe : Nat) (v py qy : Int) (pw pd qw qd b3 : Bool) (w W : World) (hW : (w.alloc (.cells #[.int .i64 v,.slice pA pt pa,.slice pB pg pb,.slice pC ps pc,.bool pw,.bool pd,.int .i64 py,.slice pD pm pe] 37)).alloc (.cells #[.int .i64 v,.slice qA qt qa,.slice qB qg qb,.slice qC qs qc,.bool pw,.bool qd,.int .i64 qy,.slice qD qm qe] 37) = W) (hx : Bx W w.heap.size 37 #[.int .i64 v,.slice pA pt pa,.slice pB pg pb,.slice pC ps pc,.bool pw,.bool pd,.int .i64 py,.slice pD pm pe]) (hy : Bx W (w.heap.size + 1) 37 #[.int .i64 v,.slice qA qt qa,.slice qB qg qb,.slice qC qs qc,.bool pw,.bool qd,.int .i64 qy,.slice qD qm qe]) (hB : Below w.heap.size w W) (e2 : (pd == qd) = false) :
  Calls Tryz.prog 89 #[.agg #[.int .i64 v,.slice pA pt pa,.slice pB pg pb,.slice pC ps pc,.bool pw,.bool pd,.int .i64 py,.slice pD pm pe],.agg #[.int .i64 v,.slice qA qt qa,.slice qB qg qb,.slice qC qs qc,.bool pw,.bool qd,.int .i64 qy,.slice qD qm qe]] w fun e w' => e = .returned (.bool false) ∧ Below w.heap.size w w' := by
 obtain ⟨⟨c0,c1,c2,c3⟩,c4,c5,c6,c7⟩ := Bx.r8 hx
 obtain ⟨⟨d0,d1,d2,d3⟩,d4,d5,d6,d7⟩ := Bx.r8 hy
 have HB : Hid (Below w.heap.size w W) := hB
 have e0 : (v == v) = true := by simp
 clear hx hy hB
 go_enter Tryz.func89,Tryz.ntmps89
 go_upto_region 1 with fail
 try rw [hW]
 clear hW
 go_wp2_with fail
 go_ret
 exact ⟨rfl,by first | exact HB.out | exact belowN HB.out⟩
set_option maxRecDepth 100000 in
set_option maxHeartbeats 1600000 in
theorem alk2 (pA pB pC pD qA qB qC qD : Option Addr) (pt pg ps pm pa pb pc pe qt qg qs qm qa qb qc qe : Nat) (v py qy : Int) (pw pd qw qd b3 : Bool) (w W : World) (hW : (w.alloc (.cells #[.int .i64 v,.slice pA pt pa,.slice pB pg pb,.slice pC ps pc,.bool pw,.bool pd,.int .i64 py,.slice pD pm pe] 37)).alloc (.cells #[.int .i64 v,.slice qA qt qa,.slice qB qg qb,.slice qC qs qc,.bool pw,.bool pd,.int .i64 qy,.slice qD qm qe] 37) = W) (hx : Bx W w.heap.size 37 #[.int .i64 v,.slice pA pt pa,.slice pB pg pb,.slice pC ps pc,.bool pw,.bool pd,.int .i64 py,.slice pD pm pe]) (hy : Bx W (w.heap.size + 1) 37 #[.int .i64 v,.slice qA qt qa,.slice qB qg qb,.slice qC qs qc,.bool pw,.bool pd,.int .i64 qy,.slice qD qm qe]) (hB : Below w.heap.size w W) (e3 : (py == qy) = false) :
  Calls Tryz.prog 89 #[.agg #[.int .i64 v,.slice pA pt pa,.slice pB pg pb,.slice pC ps pc,.bool pw,.bool pd,.int .i64 py,.slice pD pm pe],.agg #[.int .i64 v,.slice qA qt qa,.slice qB qg qb,.slice qC qs qc,.bool pw,.bool pd,.int .i64 qy,.slice qD qm qe]] w fun e w' => e = .returned (.bool false) ∧ Below w.heap.size w w' := by
 obtain ⟨⟨c0,c1,c2,c3⟩,c4,c5,c6,c7⟩ := Bx.r8 hx
 obtain ⟨⟨d0,d1,d2,d3⟩,d4,d5,d6,d7⟩ := Bx.r8 hy
 have HB : Hid (Below w.heap.size w W) := hB
 have e0 : (v == v) = true := by simp
 clear hx hy hB
 go_enter Tryz.func89,Tryz.ntmps89
 go_upto_region 1 with fail
 try rw [hW]
 clear hW
 go_wp2_with fail
 go_ret
 exact ⟨rfl,by first | exact HB.out | exact belowN HB.out⟩
set_option maxRecDepth 100000 in
set_option maxHeartbeats 1600000 in
theorem alk3 (pA pB pC pD qA qB qC qD : Option Addr) (pt pg ps pm pa pb pc pe qt qg qs qm qa qb qc qe : Nat) (v py qy : Int) (pw pd qw qd b3 : Bool) (w W : World) (hW : (w.alloc (.cells #[.int .i64 v,.slice pA pt pa,.slice pB pg pb,.slice pC ps pc,.bool pw,.bool pd,.int .i64 py,.slice pD pm pe] 37)).alloc (.cells #[.int .i64 v,.slice qA qt qa,.slice qB qg qb,.slice qC qs qc,.bool pw,.bool pd,.int .i64 py,.slice qD qm qe] 37) = W) (hx : Bx W w.heap.size 37 #[.int .i64 v,.slice pA pt pa,.slice pB pg pb,.slice pC ps pc,.bool pw,.bool pd,.int .i64 py,.slice pD pm pe]) (hy : Bx W (w.heap.size + 1) 37 #[.int .i64 v,.slice qA qt qa,.slice qB qg qb,.slice qC qs qc,.bool pw,.bool pd,.int .i64 py,.slice qD qm qe]) (hB : Below w.heap.size w W) (hT : Calls Tryz.prog 149 #[.slice pA pt pa,.slice qA qt qa] W fun e w' => e = .returned (.bool true) ∧ ∃ n,w' = W.drewN n) (hG : ∀ k,Calls Tryz.prog 150 #[.slice pB pg pb,.slice qB qg qb] (W.drewN k) fun e w' => e = .returned (.bool false) ∧ ∃ n,w' = (W.drewN k).drewN n) :
  Calls Tryz.prog 89 #[.agg #[.int .i64 v,.slice pA pt pa,.slice pB pg pb,.slice pC ps pc,.bool pw,.bool pd,.int .i64 py,.slice pD pm pe],.agg #[.int .i64 v,.slice qA qt qa,.slice qB qg qb,.slice qC qs qc,.bool pw,.bool pd,.int .i64 py,.slice qD qm qe]] w fun e w' => e = .returned (.bool false) ∧ Below w.heap.size w w' := by
 obtain ⟨⟨c0,c1,c2,c3⟩,c4,c5,c6,c7⟩ := Bx.r8 hx
 obtain ⟨⟨d0,d1,d2,d3⟩,d4,d5,d6,d7⟩ := Bx.r8 hy
 have HB : Hid (Below w.heap.size w W) := hB
 have e0 : (v == v) = true := by simp
 clear hx hy hB
 go_enter Tryz.func89,Tryz.ntmps89
 go_upto_region 1 with fail
 try rw [hW]
 clear hW
 go_wp2_with (first | (go_at_call 149;refine hT.mono ?_;rintro e w' ⟨rfl,m1,hw'⟩;rw [hw'];clear hw') | (go_at_call 150;with_reducible refine (hG _).mono ?_;rintro e w' ⟨rfl,m2,hw'⟩;rw [hw',World.drewN_drewN];clear hw'))
 go_ret
 exact ⟨rfl,by first | exact HB.out | exact belowN HB.out⟩
set_option maxRecDepth 100000 in
set_option maxHeartbeats 1600000 in
theorem alk4 (pA pB pC pD qA qB qC qD : Option Addr) (pt pg ps pm pa pb pc pe qt qg qs qm qa qb qc qe : Nat) (v py qy : Int) (pw pd qw qd b3 : Bool) (w W : World) (hW : (w.alloc (.cells #[.int .i64 v,.slice pA pt pa,.slice pB pg pb,.slice pC ps pc,.bool pw,.bool pd,.int .i64 py,.slice pD pm pe] 37)).alloc (.cells #[.int .i64 v,.slice qA qt qa,.slice qB qg qb,.slice qC qs qc,.bool pw,.bool pd,.int .i64 py,.slice qD qm qe] 37) = W) (hx : Bx W w.heap.size 37 #[.int .i64 v,.slice pA pt pa,.slice pB pg pb,.slice pC ps pc,.bool pw,.bool pd,.int .i64 py,.slice pD pm pe]) (hy : Bx W (w.heap.size + 1) 37 #[.int .i64 v,.slice qA qt qa,.slice qB qg qb,.slice qC qs qc,.bool pw,.bool pd,.int .i64 py,.slice qD qm qe]) (hB : Below w.heap.size w W) (hT : Calls Tryz.prog 149 #[.slice pA pt pa,.slice qA qt qa] W fun e w' => e = .returned (.bool true) ∧ ∃ n,w' = W.drewN n) (hG : ∀ k,Calls Tryz.prog 150 #[.slice pB pg pb,.slice qB qg qb] (W.drewN k) fun e w' => e = .returned (.bool true) ∧ ∃ n,w' = (W.drewN k).drewN n) (hS : ∀ k,Calls Tryz.prog 150 #[.slice pC ps pc,.slice qC qs qc] (W.drewN k) fun e w' => e = .returned (.bool false) ∧ ∃ n,w' = (W.drewN k).drewN n) :
  Calls Tryz.prog 89 #[.agg #[.int .i64 v,.slice pA pt pa,.slice pB pg pb,.slice pC ps pc,.bool pw,.bool pd,.int .i64 py,.slice pD pm pe],.agg #[.int .i64 v,.slice qA qt qa,.slice qB qg qb,.slice qC qs qc,.bool pw,.bool pd,.int .i64 py,.slice qD qm qe]] w fun e w' => e = .returned (.bool false) ∧ Below w.heap.size w w' := by
 obtain ⟨⟨c0,c1,c2,c3⟩,c4,c5,c6,c7⟩ := Bx.r8 hx
 obtain ⟨⟨d0,d1,d2,d3⟩,d4,d5,d6,d7⟩ := Bx.r8 hy
 have HB : Hid (Below w.heap.size w W) := hB
 have e0 : (v == v) = true := by simp
 clear hx hy hB
 go_enter Tryz.func89,Tryz.ntmps89
 go_upto_region 1 with fail
 try rw [hW]
 clear hW
 go_wp2_with (first | (go_at_call 149;refine hT.mono ?_;rintro e w' ⟨rfl,m1,hw'⟩;rw [hw'];clear hw') | (go_at_call 150;with_reducible refine (hG _).mono ?_;rintro e w' ⟨rfl,m2,hw'⟩;rw [hw',World.drewN_drewN];clear hw') | (go_at_call 150;with_reducible refine (hS _).mono ?_;rintro e w' ⟨rfl,m2,hw'⟩;rw [hw',World.drewN_drewN];clear hw'))
 go_ret
 exact ⟨rfl,by first | exact HB.out | exact belowN HB.out⟩
set_option maxRecDepth 100000 in
set_option maxHeartbeats 1600000 in
theorem alk5 (pA pB pC pD qA qB qC qD : Option Addr) (pt pg ps pm pa pb pc pe qt qg qs qm qa qb qc qe : Nat) (v py qy : Int) (pw pd qw qd b3 : Bool) (w W : World) (hW : (w.alloc (.cells #[.int .i64 v,.slice pA pt pa,.slice pB pg pb,.slice pC ps pc,.bool pw,.bool pd,.int .i64 py,.slice pD pm pe] 37)).alloc (.cells #[.int .i64 v,.slice qA qt qa,.slice qB qg qb,.slice qC qs qc,.bool pw,.bool pd,.int .i64 py,.slice qD qm qe] 37) = W) (hx : Bx W w.heap.size 37 #[.int .i64 v,.slice pA pt pa,.slice pB pg pb,.slice pC ps pc,.bool pw,.bool pd,.int .i64 py,.slice pD pm pe]) (hy : Bx W (w.heap.size + 1) 37 #[.int .i64 v,.slice qA qt qa,.slice qB qg qb,.slice qC qs qc,.bool pw,.bool pd,.int .i64 py,.slice qD qm qe]) (hB : Below w.heap.size w W) (hT : Calls Tryz.prog 149 #[.slice pA pt pa,.slice qA qt qa] W fun e w' => e = .returned (.bool true) ∧ ∃ n,w' = W.drewN n) (hG : ∀ k,Calls Tryz.prog 150 #[.slice pB pg pb,.slice qB qg qb] (W.drewN k) fun e w' => e = .returned (.bool true) ∧ ∃ n,w' = (W.drewN k).drewN n) (hS : ∀ k,Calls Tryz.prog 150 #[.slice pC ps pc,.slice qC qs qc] (W.drewN k) fun e w' => e = .returned (.bool true) ∧ ∃ n,w' = (W.drewN k).drewN n) (hM : ∀ k,Calls Tryz.prog 150 #[.slice pD pm pe,.slice qD qm qe] (W.drewN k) fun e w' => e = .returned (.bool b3) ∧ ∃ n,w' = (W.drewN k).drewN n) :
  Calls Tryz.prog 89 #[.agg #[.int .i64 v,.slice pA pt pa,.slice pB pg pb,.slice pC ps pc,.bool pw,.bool pd,.int .i64 py,.slice pD pm pe],.agg #[.int .i64 v,.slice qA qt qa,.slice qB qg qb,.slice qC qs qc,.bool pw,.bool pd,.int .i64 py,.slice qD qm qe]] w fun e w' => e = .returned (.bool b3) ∧ Below w.heap.size w w' := by
 obtain ⟨⟨c0,c1,c2,c3⟩,c4,c5,c6,c7⟩ := Bx.r8 hx
 obtain ⟨⟨d0,d1,d2,d3⟩,d4,d5,d6,d7⟩ := Bx.r8 hy
 have HB : Hid (Below w.heap.size w W) := hB
 have e0 : (v == v) = true := by simp
 clear hx hy hB
 go_enter Tryz.func89,Tryz.ntmps89
 go_upto_region 1 with fail
 try rw [hW]
 clear hW
 go_wp2_with (first | (go_at_call 149;refine hT.mono ?_;rintro e w' ⟨rfl,m1,hw'⟩;rw [hw'];clear hw') | (go_at_call 150;with_reducible refine (hG _).mono ?_;rintro e w' ⟨rfl,m2,hw'⟩;rw [hw',World.drewN_drewN];clear hw') | (go_at_call 150;with_reducible refine (hS _).mono ?_;rintro e w' ⟨rfl,m2,hw'⟩;rw [hw',World.drewN_drewN];clear hw') | (go_at_call 150;with_reducible refine (hM _).mono ?_;rintro e w' ⟨rfl,m2,hw'⟩;rw [hw',World.drewN_drewN];clear hw'))
 go_ret
 exact ⟨rfl,by first | exact HB.out | exact belowN HB.out⟩
set_option maxRecDepth 100000 in
set_option maxHeartbeats 1600000 in
theorem alk_any (A B : Ra) (r s : Rw) (w : World) (hv : RwP w A r) (hu : RwP w B s) (hver : r.ver = s.ver) (htx : r.txt = s.txt) :
  Calls Tryz.prog 89 #[rwV A r,rwV B s] w fun e w' => e = .returned (.bool (sameRw r s)) ∧ Below w.heap.size w w' := by
 obtain ⟨W,hW,hx,hy,hB0⟩ := two16 A B r s 37 w
 have h0 := hv.below hB0
 have g0 := hu.below hB0
 have hS0 := h0.rws
 have gS0 := g0.rws
 have hTx : Calls Tryz.prog 149 #[.slice A.ta r.txt.length A.tc,.slice B.ta s.txt.length B.tc] W fun e w' => e = .returned (.bool true) ∧ ∃ n,w' = W.drewN n := by
  have := eqTx_any A.ta B.ta A.tc B.tc r.txt s.txt W hS0.txt gS0.txt hS0.mt (by rw [htx])
  rw [decide_eq_true htx] at this
  exact this
 have hG := fun k => slEqual_any A.ga B.ga r.got.length A.gc s.got.length B.gc r.got s.got (W.drewN k) (h0.below (belowN (n := k) (Below.refl _ _))).rws.got (g0.below (belowN (n := k) (Below.refl _ _))).rws.got hS0.mg
 have hS := fun k => slEqual_any A.sa B.sa r.sus.length A.sc s.sus.length B.sc r.sus s.sus (W.drewN k) (h0.below (belowN (n := k) (Below.refl _ _))).rws.sus (g0.below (belowN (n := k) (Below.refl _ _))).rws.sus hS0.ms
 have hM := fun k => slEqual_any A.ma B.ma r.trm.length A.mc s.trm.length B.mc r.trm s.trm (W.drewN k) (h0.below (belowN (n := k) (Below.refl _ _))).rws.trm (g0.below (belowN (n := k) (Below.refl _ _))).rws.trm hS0.mm
 have HG : sameRw r s = (decide (r.wed = s.wed) && (decide (r.rdy = s.rdy) && (decide (r.by_ = s.by_) && (decide (r.got = s.got) && (decide (r.sus = s.sus) && decide (r.trm = s.trm)))))) := by
  rw [sameRw];simp only [Bool.decide_and]
 rw [HG]
 clear HG h0 g0 hS0 gS0 hv hu
 generalize decide (r.got = s.got) = b1 at *
 generalize decide (r.sus = s.sus) = b2 at *
 generalize decide (r.trm = s.trm) = b3 at *
 obtain ⟨v,pt,pg,ps,pw,pd,py,pm⟩ := r
 obtain ⟨qv,qt,qg,qs,qw,qd,qy,qm⟩ := s
 obtain ⟨pA,pa,pB,pb,pC,pc,pD,pe⟩ := A
 obtain ⟨qA,qa,qB,qb,qC,qc,qD,qe⟩ := B
 simp only at hver htx
 subst hver
 clear htx
 by_cases h0 : pw = qw
 rotate_left
 ·rw [decide_eq_false h0,Bool.false_and]
  exact alk0 pA pB pC pD qA qB qC qD _ _ _ _ pa pb pc pe _ _ _ _ qa qb qc qe v py qy pw pd qw qd b3 w W hW hx hy hB0 (by simp [h0])
 subst h0
 rw [decide_eq_true rfl,Bool.true_and]
 by_cases h0 : pd = qd
 rotate_left
 ·rw [decide_eq_false h0,Bool.false_and]
  exact alk1 pA pB pC pD qA qB qC qD _ _ _ _ pa pb pc pe _ _ _ _ qa qb qc qe v py qy pw pd pw qd b3 w W hW hx hy hB0 (by simp [h0])
 subst h0
 rw [decide_eq_true rfl,Bool.true_and]
 by_cases h0 : py = qy
 rotate_left
 ·rw [decide_eq_false h0,Bool.false_and]
  exact alk2 pA pB pC pD qA qB qC qD _ _ _ _ pa pb pc pe _ _ _ _ qa qb qc qe v py qy pw pd pw pd b3 w W hW hx hy hB0 (by simp [h0])
 subst h0
 rw [decide_eq_true rfl,Bool.true_and]
 cases b1 with
 | false => exact alk3 pA pB pC pD qA qB qC qD _ _ _ _ pa pb pc pe _ _ _ _ qa qb qc qe v py py pw pd pw pd b3 w W hW hx hy hB0 hTx hG
 | true =>
  rw [Bool.true_and]
  cases b2 with
  | false => exact alk4 pA pB pC pD qA qB qC qD _ _ _ _ pa pb pc pe _ _ _ _ qa qb qc qe v py py pw pd pw pd b3 w W hW hx hy hB0 hTx hG hS
  | true => exact alk5 pA pB pC pD qA qB qC qD _ _ _ _ pa pb pc pe _ _ _ _ qa qb qc qe v py py pw pd pw pd b3 w W hW hx hy hB0 hTx hG hS hM
end Go.Proofs.YtidnfdobljihoaaGreat