/-
  Several texts in one: Irc Ica.
-/
import Derived.Test.YtjefneaghlohlaaKb
import Derived.Test.YtjefneaghlohlaaJz
/-
  The program's way through the tree from 0 on, by a heap: all numbers below n come, in their order.
-/
namespace Go.Proofs.Ytjefneaghlohlaa
set_option linter.unusedVariables false
set_option linter.unusedSimpArgs false
open Go.RowKit Go.Sort

def sliceLen9 : Value → Nat
  | .slice _ n _ => n
  | _ => 0
/-- What the way keeps: who waits (rest, a heap in box B) and who has come (out). -/
structure Rh (w wr : World) (B g : Nat) (out rest : List Int) (gq oq cq : Nat) : Prop where
  hs : Hs wr B g wr rest
  gB : g ≠ B
  g0 : w.heap.size ≤ g
  ng : gq ≠ g
  hp : Hp kI rest rest.length
  oi : OI wr gq oq out.length cq out
  nB : gq ≠ B
  gq : w.heap.size ≤ gq
  B0 : w.heap.size ≤ B
  bl : Below w.heap.size w wr
theorem Rh.oi3 {w wr : World} {B g : Nat} {out rest : List Int} {gq oq cq : Nat} (h : Rh w wr B g out rest gq oq cq) {w3 : World} {zs : List Int} (hs3 : Hs wr B g w3 zs) (o : Obj) : OI (w3.alloc o) gq oq out.length cq out := by
  have ho := hs3.fr.num h.oi h.nB h.ng
  exact OSl.below ho ((Below.refl _ _).alloc (Nat.le_refl _) _) ho.blk
theorem Rh.blt {w wr : World} {B g : Nat} {out rest : List Int} {gq oq cq : Nat} (h : Rh w wr B g out rest gq oq cq) : B < wr.heap.size := by
  obtain ⟨_, _, _, _, _, _, _, hB0, _⟩ := h.hs
  exact hB0
theorem Rh.glt {w wr : World} {B g : Nat} {out rest : List Int} {gq oq cq : Nat} (h : Rh w wr B g out rest gq oq cq) : g < wr.heap.size := by
  obtain ⟨g1, _, _, _, ho, _, hg, _, _⟩ := h.hs
  have := ho.blk
  rcases hg with e | e <;> omega
theorem Rh.next {w wr : World} {B g : Nat} {out rest : List Int} {gq oq cq : Nat} (h : Rh w wr B g out rest gq oq cq) {w3 : World} {zs : List Int} {x : Int} (hs3 : Hs wr B g w3 zs)
    (hz : Hp kI zs zs.length) {w6 : World} {g6 o6 c6 : Nat} (hO6 : OSl w6 1 g6 o6 (out.length + 1) c6 (out.map (Value.int .i64) ++ [.int .i64 x]))
    (hg6 : (w3.alloc (.cells #[.int .i64 x] 2)).grownBy w6 (some gq)) (hat6 : g6 = gq ∨ g6 = (w3.alloc (.cells #[.int .i64 x] 2)).heap.size) : ∃ g', Rh w w6 B g' (out ++ [x]) zs g6 o6 c6 := by
  obtain ⟨g3, e3, n3, l3, h3⟩ := hs3.rebase
  have hq := h.oi.blk
  have hn := h.ng
  have hB := h.nB
  have hs := h.bl.size
  have q3 : g3 ≠ gq := by rcases e3 with e | e <;> omega
  have r3 : w.heap.size ≤ g3 := by have := h.g0; rcases e3 with e | e <;> omega
  have ha := h3.other (World.grownBy_alloc w3 (.cells #[.int .i64 x] 2) none) (by simp) (by simp)
  have h6 := ha.other hg6 (by simp; omega) (by simp; omega)
  have hb3 := hs3.fr.below h.bl h.B0 h.g0 hs
  have hz3 : (w3.alloc (.cells #[.int .i64 x] 2)).heap.size = w3.heap.size + 1 := by simp
  have hs3' := hb3.size
  have hBl := h.blt
  have hfs := hs3.fr.size
  refine ⟨g3, h6, n3, r3, by rcases hat6 with e | e <;> omega, hz, ?_, by rcases hat6 with e | e <;> omega, by rcases hat6 with e | e <;> have := h.gq <;> omega, h.B0, ?_⟩
  · rw [OI, List.length_append, List.length_singleton, List.map_append]; exact hO6
  · exact below_grown6 (hb3.alloc hs3' _) hg6 h.gq (by omega)
theorem Hs.belowSelf {w w' : World} {B g : Nat} {xs : List Int} (h : Hs w B g w xs) (hb : Below w.heap.size w w') : Hs w' B g w' xs := by
  obtain ⟨g1, og, cap, hbx, ho, hgB, hg0, hB0, hfr⟩ := h
  have hk := ho.blk
  obtain rfl : g1 = g := by rcases hg0 with e | e <;> omega
  exact ⟨g1, og, cap, hbx.below hb, OSl.below ho hb hk, hgB, .inl rfl, Nat.lt_of_lt_of_le hB0 hb.size, Fr.refl _ _ _⟩
/-- A call that only lays blocks. -/
theorem Rh.below {w wr w' : World} {B g : Nat} {out rest : List Int} {gq oq cq : Nat} (h : Rh w wr B g out rest gq oq cq) (hb : Below wr.heap.size wr w') : Rh w w' B g out rest gq oq cq :=
  ⟨h.hs.belowSelf hb, h.gB, h.g0, h.ng, h.hp, OSl.below h.oi hb h.oi.blk, h.nB, h.gq, h.B0, h.bl.trans (hb.mono h.bl.size)⟩
/-- Pushes alone have been made since. -/
theorem Rh.pushed {w wr w' : World} {B g : Nat} {out rest ys : List Int} {gq oq cq : Nat} (h : Rh w wr B g out rest gq oq cq) (hs : Hs wr B g w' ys) (hp : Hp kI ys ys.length) : ∃ g', Rh w w' B g' out ys gq oq cq := by
  obtain ⟨g3, e3, n3, l3, h3⟩ := hs.rebase
  have hq := h.oi.blk
  have hn := h.ng
  have hz := h.bl.size
  exact ⟨g3, h3, n3, by have := h.g0; rcases e3 with e | e <;> omega, by rcases e3 with e | e <;> omega, hp, hs.fr.num h.oi h.nB h.ng, h.nB, h.gq, h.B0, hs.fr.below h.bl h.B0 h.g0 hz⟩

/-- The world once the heap has been made. -/
def w9r (w : World) : World := ((w.alloc (.cells #[] 2)).alloc (.cells #[.int .i64 0] 2)).alloc (.cells #[.slice (some ⟨w.heap.size + 1, 0, none⟩) 1 1] 74)
theorem w9r_size (w : World) : (w9r w).heap.size = w.heap.size + 1 + 1 + 1 := by simp [w9r]
theorem num_one9 (w : World) (x : Int) (T : TypeId) : OI (w.alloc (.cells #[.int .i64 x] T)) w.heap.size 0 1 1 [x] := by
  have hb : (w.alloc (.cells #[.int .i64 x] T)).heap[w.heap.size]? = some (.cells #[.int .i64 x] T (0, 0)) := heap_alloc_new w _
  refine ⟨rfl, Nat.le_refl _, by unfold maxLen; omega, by simp, fun i hi => ?_, fun i hi => ?_, fun i hi => ?_⟩
  · simp only [World.cell?, hb]
    obtain rfl : i = 0 := by omega
    rfl
  · simp only [World.cell?, hb]
    obtain rfl : i = 0 := by omega
    rfl
  · rw [Nat.zero_add]; exact (Bx.new w T #[.int .i64 x]).f i
theorem w9r_rh (w : World) : Rh w (w9r w) (w.heap.size + 1 + 1) (w.heap.size + 1) [] [0] w.heap.size 0 0 := by
  have e1 : (w.alloc (.cells #[] 2)).heap.size = w.heap.size + 1 := by simp
  have e2 : ((w.alloc (.cells #[] 2)).alloc (.cells #[.int .i64 0] 2)).heap.size = w.heap.size + 1 + 1 := by simp
  refine ⟨⟨w.heap.size + 1, 0, 1, ?_, ?_, by omega, .inl rfl, by rw [w9r_size]; omega, Fr.refl _ _ _⟩, by omega, by omega, by omega, fun i h0 hi => absurd hi (by simp; omega), ?_, by omega, Nat.le_refl _, by omega, ?_⟩
  · have := Bx.new ((w.alloc (.cells #[] 2)).alloc (.cells #[.int .i64 0] 2)) 74 #[.slice (some ⟨w.heap.size + 1, 0, none⟩) 1 1]
    rwa [e2] at this
  · have h := num_one9 (w.alloc (.cells #[] 2)) 0 2
    rw [e1] at h
    exact OSl.below h ((Below.refl _ _).alloc (Nat.le_refl _) _) h.blk
  · have h := num_empty w 2
    have h2 := OSl.below h ((Below.refl _ _).alloc (Nat.le_refl _) (.cells #[.int .i64 0] 2)) h.blk
    exact OSl.below h2 ((Below.refl _ _).alloc (Nat.le_refl _) _) h2.blk
  · exact (((Below.refl _ _).alloc (Nat.le_refl _) _).alloc (by simp) _).alloc (by simp; omega) _
theorem chlL_in {N k : Nat} (h : k < N) (hN : N ≤ 1000) : chlL (N : Int) (k : Int) = chl N k := by
  rw [chlL, inB7.2 ⟨by omega, by omega⟩, inB7.2 ⟨by omega, by omega⟩]
  simp

set_option maxRecDepth 100000 in
set_option maxHeartbeats 6400000 in
theorem reached_any (N : Nat) (w : World) (h1 : 1 ≤ N) (h2 : N ≤ 1000) : Calls Try.prog 80 #[.int .i64 (N : Int)] w fun e w' => AnsN w w' e (upto9 N) := by
  obtain ⟨i0, hi0, hz0, hz1, hz2⟩ := info_parts2n Try.info2n
  go_enter Try.func80, Try.ntmps80
  go_wp2_with fail
  have HD : Hid (Rh w (w9r w) (w.heap.size + 1 + 1) (w.heap.size + 1) [] [0] w.heap.size 0 0) := w9r_rh w
  generalize hB : w.heap.size + 1 + 1 = B at *
  clear hB
  go_loopw [3] (fun v wr => ∃ (k g : Nat) (rest : List Int) (gq oq cq : Nat), k ≤ N ∧ v = .slice (some ⟨gq, oq, none⟩) (upto9 k).length cq ∧ rest.Perm (wt N k) ∧ Rh w wr B g (upto9 k) rest gq oq cq) (fun v _ => N - sliceLen9 v)
  case atStart => exact ⟨0, _, [0], _, _, _, Nat.zero_le _, rfl, wt_start h1, HD.out⟩
  case round =>
    obtain ⟨k, g, rest, gq, oq, cq, hkN, rfl, hpm, hd⟩ := hrel
    have LD : Hid (Rh w wr B g (upto9 k) rest gq oq cq) := hd
    have LP : Hid (rest.Perm (wt N k)) := hpm
    have hrl : rest.length ≤ 1000 := by rw [hpm.length_eq]; exact Nat.le_trans (wt_len N k) h2
    obtain ⟨g1, og, cap, c0, ho, hsw⟩ := hd.hs.open
    have hLn := ndLen_any (some ⟨g1, og, none⟩) rest.length cap wr
    clear hd ho hsw HD hpm
    rcases Nat.eq_zero_or_pos rest.length with e0 | e0
    · rw [e0] at c0 hLn
      go_wp2_with (go_at_call 84; refine hLn.mono ?_; rintro e w2 ⟨rfl, rfl⟩)
      go_ret
      have hr0 : rest = [] := List.length_eq_zero_iff.1 e0
      have hp := LP.out
      rw [hr0] at hp
      have hkk : k = N := by
        rcases Nat.lt_or_ge k N with h | h
        · have := hp.symm.subset (wt_self h)
          simp at this
        · omega
      subst hkk
      have hd := LD.out
      exact ⟨gq, oq, cq, rfl, hd.gq, hd.oi, hd.bl⟩
    · have hkN2 : k < N := by
        rcases Nat.lt_or_ge k N with h | h
        · exact h
        · have := LP.out.length_eq
          rw [wt_end N k h, List.length_nil] at this
          omega
      obtain ⟨m, hm⟩ : ∃ m, rest.length = m + 1 := ⟨rest.length - 1, by omega⟩
      have hPo := heapPop_any wr B g m rest wr LD.out.hs hm (by omega) LD.out.hp
      have hm0 : (0 : Int) < ((m + 1 : Nat) : Int) := by omega
      have hta : ∀ w, (Instr.typeAssert (.iface 2 (.int .i64 (k : Int))) 20 2 false).run Try.prog w = .ok (.int .i64 (k : Int)) w := fun w => by kernel_rfl
      have HX : Hid (∀ (x : Int) (zs : List Int), (x :: zs).Perm rest → (∀ z ∈ zs, x ≤ z) → x = (k : Int)) := fun x zs a b => wt_least hkN2 LP.out a b
      have hCh := fun X => implChildren (N : Int) (k : Int) X (by unfold I64t; omega) (by unfold I64t; omega)
      rw [chlL_in hkN2 h2] at hCh
      rw [hm] at c0 hLn
      have hul : (upto9 k).length ≤ 1000 := by rw [upto9_len]; omega
      have HU : Hid (upto9 (k + 1) = upto9 k ++ [(k : Int)]) := upto9_succ k
      have HK : Hid ((upto9 k).length = k) := upto9_len k
      generalize upto9 k = out at *
      generalize el rest 0 = x at *
      go_wp2_with (first
        | (go_at_call 84; refine hLn.mono ?_; rintro e w2 ⟨rfl, rfl⟩)
        | (go_at_call 85; refine hPo.mono ?_; rintro e w3 ⟨rfl, zs, z1, z2, z3, z4⟩; have hxk := HX.out x zs z1 z2; subst hxk; have hO2 : OSl (w3.alloc (.cells #[.int .i64 (k : Int)] 2)) 1 gq oq out.length cq (out.map (Value.int .i64)) := LD.out.oi3 z4 _)
        | (at_builtin; refine wpList_append_os _ rfl _ _ _ rfl 2 i0 _ 1 8 Try.underlying24 hi0 hz0 hz1 hz2 rfl (by omega) gq oq out.length cq _ rfl hO2 ⟨w3.heap.size, 0, none⟩ 1 1 [.int .i64 (k : Int)] rfl rfl (World.news_of_block (cs := #[.int .i64 (k : Int)]) (t := 2) (fr := (0, 0)) (heap_alloc_new _ _)) (by simp [Value.oneCell']) (by unfold maxLen; omega) (by omega) ?_; intro g6 o6 c6 w6 hO6 hg6 hat6)
        | (go_at_call 32; refine (hCh _).mono ?_; rintro e w7 ⟨gc, oc, cc, rfl, hgc, hOc, hBc⟩))
      obtain ⟨gp, HN6⟩ := LD.out.next z4 z3 hO6 hg6 hat6
      have HN : Hid (Rh w w7 B gp (out ++ [(k : Int)]) zs g6 o6 c6) := HN6.below hBc
      have HW : Hid ((zs ++ chl N k).Perm (wt N (k + 1))) := wt_next hkN2 LP.out z1
      have hcB : gc ≠ B := by have := HN6.blt; omega
      have hcg : gc ≠ gp := by have := HN6.glt; omega
      have HC : Hid (OI w7 gc oc (chl N k).length cc (chl N k)) := hOc
      have hcl := chl_len N k
      have hzl : zs.length ≤ 1000 := by have := z1.length_eq; simp at this; omega
      clear HN6 hgc hOc hBc z1 z2 z3 z4 hO6 hg6 hat6 hO2 LD LP hPo hLn c0 HX hCh hta
      have hol : (out ++ [(k : Int)]).length = out.length + 1 := by simp
      generalize chl N k = L at *
      go_loopw [28] (fun i wi => ∃ (j : Nat) (ys : List Int), j ≤ L.length ∧ i = .int .i64 (j : Int) ∧ ys.Perm (zs ++ L.take j) ∧ Hp kI ys ys.length ∧ Hs w7 B gp wi ys) (fun i _ => L.length - (intOf i).toNat)
      case atStart => exact ⟨0, zs, Nat.zero_le _, rfl, by simp, HN.out.hp, HN.out.hs⟩
      case round =>
        obtain ⟨j, ys, hj, rfl, hyp, hyh, hys⟩ := hrel
        have LH : Hid (Hp kI ys ys.length ∧ Hs w7 B gp wr ys) := ⟨hyh, hys⟩
        have LY : Hid (ys.Perm (zs ++ L.take j)) := hyp
        have hyl : ys.length ≤ 2000 := by rw [hyp.length_eq]; simp; omega
        clear hyp hyh hys
        by_cases hjl : j < L.length
        · have cj : wr.cell? ⟨gc, oc + j, none⟩ = some (.int .i64 (el L j)) := (LH.out.2.fr.num HC.out hcB hcg).cellAt hjl
          have hPu := heapPush_any w7 B gp ys (el L j) wr LH.out.2 (by omega) LH.out.1
          have j1 : (j : Int) < (L.length : Int) := by omega
          have HT : Hid (L.take (j + 1) = L.take j ++ [el L j]) := by
            rw [Hid, List.take_succ_eq_append_getElem hjl]
            simp [el, hjl]
          generalize el L j = y at *
          go_wp2_with (go_at_call 86; refine hPu.mono ?_; rintro e w8 ⟨⟨v8, rfl⟩, us, hup, huh, hus⟩)
          have HR : Hid (us.Perm (zs ++ L.take (j + 1)) ∧ Hp kI us us.length ∧ Hs w7 B gp w8 us) := by
            refine ⟨?_, huh, hus⟩
            rw [HT.out, ← List.append_assoc]
            exact hup.trans (List.Perm.append_right _ LY.out)
          clear hup huh hus hPu LH LY cj
          go_wp2
          go_roundw
          case rel => exact ⟨j + 1, us, by omega, by go_num, HR.out.1, HR.out.2.1, HR.out.2.2⟩
          case measure => simp [intOf]; omega
        · have j1 : ¬ ((j : Int) < (L.length : Int)) := by omega
          have hjL : j = L.length := by omega
          have HR : Hid (ys.Perm (wt N (k + 1))) := by
            have := LY.out
            rw [hjL, List.take_length] at this
            exact this.trans HW.out
          have HF : Hid (∃ g', Rh w wr B g' (out ++ [(k : Int)]) ys g6 o6 c6) := HN.out.pushed LH.out.2 LH.out.1
          clear hjL
          go_wp2
          go_roundw
          case rel =>
            obtain ⟨g', h'⟩ := HF.out
            exact ⟨k + 1, g', ys, g6, o6, c6, by omega, by rw [HU.out, hol], HR.out, by rw [HU.out]; exact h'⟩
          case measure => have := HK.out; simp [sliceLen9]; omega
end Go.Proofs.Ytjefneaghlohlaa

/-
  Calls of the program.
-/
namespace Go.Proofs.Ytjefneaghlohlaa
set_option linter.unusedVariables false
set_option linter.unusedSimpArgs false
open Go.RowKit Go.Sort

theorem upto9_fits {N : Nat} (h : N ≤ 1000) : ∀ i, i < N → el (upto9 N) i = (i : Int) := fun i hi => upto9_el hi
set_option maxRecDepth 100000 in
set_option maxHeartbeats 6400000 in
theorem implCalls : ImplCalls := by
  intro n r w hn hr
  obtain ⟨i0, hi0, hz0, hz1, hz2⟩ := info_parts2n infoCall
  have hT := fun w => isT9_any n w
  have hW := fun w => isW9_any r 9 w
  have hI := hn
  unfold I64t at hI
  cases e0 : inB n 1 1000 with
  | false =>
    have HZ : Hid (calL n r = []) := by rw [Hid, calL, e0]; rfl
    rw [e0] at hT
    clear e0 hW
    go_enter Try.func42, Try.ntmps42
    go_wp2_with (go_at_call 77; refine (hT _).mono ?_; rintro e w' ⟨rfl, hw'⟩; rw [hw']; clear hw')
    go_ret
    rw [HZ.out]
    exact ⟨_, 0, 0, rfl, Nat.le_refl _, call_empty _ _, (Below.refl _ _).alloc (Nat.le_refl _) _⟩
  | true =>
    have hk1 := inB7.1 e0
    cases e1 : inB r 0 9 with
    | false =>
      have HZ : Hid (calL n r = []) := by rw [Hid, calL, e0, e1]; rfl
      rw [e0] at hT
      rw [e1] at hW
      clear e0 e1
      go_enter Try.func42, Try.ntmps42
      go_wp2_with (first | (go_at_call 77; refine (hT _).mono ?_; rintro e w' ⟨rfl, hw'⟩; rw [hw']; clear hw') | (go_at_call 74; refine (hW _).mono ?_; rintro e w' ⟨rfl, hw'⟩; rw [hw']; clear hw'))
      go_ret
      rw [HZ.out]
      exact ⟨_, 0, 0, rfl, Nat.le_refl _, call_empty _ _, (Below.refl _ _).alloc (Nat.le_refl _) _⟩
    | true =>
      have hk2 := inB7.1 e1
      obtain ⟨N, rfl⟩ : ∃ N : Nat, n = (N : Int) := ⟨n.toNat, by omega⟩
      obtain ⟨R, rfl⟩ : ∃ R : Nat, r = (R : Int) := ⟨r.toNat, by omega⟩
      have HZ : Hid (calL (N : Int) (R : Int) = cal R (calN N R)) := by rw [Hid, calL, e0, e1]; simp
      have hq := pow_small (r := R) (by omega)
      have hw1 := wrap_pow (r := R) (by omega)
      have HM : Hid (calN N R = min N (2 * 2 ^ R) - 2 ^ R) := by rw [Hid, calN, Nat.min_comm]
      have HPA : Hid (∀ t, t < 2 ^ R → par (2 ^ R + t) = t) := fun t ht => par_is ht
      have HCS : Hid (∀ t, cal R (t + 1) = cal R t ++ [((t : Int), ((2 ^ R + t : Nat) : Int))]) := fun t => cal_succ R t
      rw [e0] at hT
      rw [e1] at hW
      clear e0 e1
      generalize hQ : 2 ^ R = Q at *
      have hRe := fun X => reached_any (min N (2 * Q)) X (by omega) (by omega)
      have HML : Hid (min N (2 * Q) ≤ 2 * Q) := Nat.min_le_right _ _
      have hM1 : min N (2 * Q) ≤ 1000 := by omega
      have hmin : min (N : Int) (2 * (Q : Int)) = ((min N (2 * Q) : Nat) : Int) := by omega
      generalize min N (2 * Q) = M at *
      have HUL : Hid ((upto9 M).length = M) := upto9_len M
      have HUE : Hid (∀ i, i < M → el (upto9 M) i = (i : Int)) := fun i hi => upto9_el hi
      generalize upto9 M = U at *
      go_enter Try.func42, Try.ntmps42
      go_wp2_with (first | (go_at_call 77; refine (hT _).mono ?_; rintro e w' ⟨rfl, hw'⟩; rw [hw']; clear hw') | (go_at_call 74; refine (hW _).mono ?_; rintro e w' ⟨rfl, hw'⟩; rw [hw']; clear hw') | (simp only [hw1, hmin]; go_at_call 80; refine (hRe _).mono ?_; rintro e w1 ⟨gu, ou, cu, rfl, hgu, hOu, hBu⟩))
      have HS : Hid (OC w1 w.heap.size 0 0 0 [] ∧ w.heap.size ≠ gu ∧ OI w1 gu ou U.length cu U ∧ Below w.heap.size w w1) := by
        have e : (w.alloc (.cells #[] 43)).heap.size = w.heap.size + 1 := by simp
        refine ⟨(call_empty w 43).below hBu (by omega), by omega, hOu, ((Below.refl _ _).alloc (Nat.le_refl _) _).trans (hBu.mono (by omega))⟩
      clear hgu hOu hBu hRe hT hW hmin
      go_loopw [5, 27] (fun v i wr => ∃ (j g og cg : Nat), j ≤ M ∧ i = .int .i64 (j : Int) ∧ v = .slice (some ⟨g, og, none⟩) (cal R (j - Q)).length cg ∧ w.heap.size ≤ g ∧ g ≠ gu ∧ OC wr g og (cal R (j - Q)).length cg (cal R (j - Q)) ∧ OI wr gu ou U.length cu U ∧ Below w.heap.size w wr) (fun _ i _ => M - (intOf i).toNat)
      case atStart => exact ⟨0, w.heap.size, 0, 0, Nat.zero_le _, rfl, by rw [Nat.zero_sub]; rfl, Nat.le_refl _, HS.out.2.1, by rw [Nat.zero_sub]; exact HS.out.1, HS.out.2.2.1, HS.out.2.2.2⟩
      case round =>
        obtain ⟨j, g, og, cg, hj, rfl, rfl, hg, hne, hO, hOu, hB⟩ := hrel
        have LO : Hid (OC wr g og (cal R (j - Q)).length cg (cal R (j - Q))) := hO
        have LU : Hid (OI wr gu ou U.length cu U) := hOu
        have LB : Hid (Below w.heap.size w wr) := hB
        have LG : Hid (w.heap.size ≤ g) := hg
        have LLE : (cal R (j - Q)).length ≤ 1000 := by rw [cal_len]; omega
        clear hO hB hg hOu HS
        by_cases hlt : j < M
        · have cj : wr.cell? ⟨gu, ou + j, none⟩ = some (.int .i64 (j : Int)) := by
            have := LU.out.cellAt (i := j) (by rw [HUL.out]; exact hlt)
            rwa [HUE.out j hlt] at this
          have j1 : (j : Int) < (U.length : Int) := by rw [HUL.out]; omega
          by_cases hx : Q ≤ j
          · have hx' : (Q : Int) ≤ (j : Int) := by omega
            obtain ⟨t, rfl⟩ : ∃ t, j = Q + t := ⟨j - Q, by omega⟩
            have htQ : t < Q := by have := HML.out; omega
            have hP := fun w => parI_any ((Q + t : Nat) : Int) w
            have hpl : parL ((Q + t : Nat) : Int) = (t : Int) := by rw [parL, inB7.2 ⟨by omega, by omega⟩]; simp only [if_true, Int.toNat_natCast]; rw [HPA.out t htQ]
            rw [hpl] at hP
            have e1 : Q + t - Q = t := by omega
            have e2 : Hid (Q + t + 1 - Q = t + 1) := by rw [Hid]; omega
            rw [e1] at LO LLE ⊢
            have HR : Hid (cal R (t + 1) = cal R t ++ [((t : Int), ((Q + t : Nat) : Int))]) := HCS.out t
            clear hpl e1
            generalize hkk : Q + t = kk at *
            have hkk' : Hid (Q + t = kk) := hkk
            clear hkk
            generalize hW : cal R (t + 1) = W1 at *
            generalize cal R t = W0 at *
            have hO2 : OSl (wr.alloc (.cells #[.int .i64 (t : Int), .int .i64 (kk : Int)] 43)) 2 g og W0.length cg (cvs W0) := OSl.below LO.out ((Below.refl _ _).alloc (Nat.le_refl _) _) LO.out.blk
            go_wp2_with (first | (go_at_call 30; refine (hP _).mono ?_; rintro e w' ⟨rfl, hw'⟩; rw [hw']; clear hw') | (at_builtin; refine wpList_append_os _ rfl _ _ _ rfl 43 i0 _ 2 16 Try.underlying39 hi0 hz0 hz1 hz2 rfl (by omega) g og W0.length cg _ rfl hO2 ⟨wr.heap.size, 0, none⟩ 1 1 [.int .i64 (t : Int), .int .i64 (kk : Int)] rfl rfl (World.news_of_block (cs := #[.int .i64 (t : Int), .int .i64 (kk : Int)]) (t := 43) (fr := (0, 0)) (heap_alloc_new _ _)) (by simp [Value.oneCell']) (by unfold maxLen; omega) (by omega) ?_; intro g6 o6 c6 w6 hO6 hg6 hat6))
            have hub := LU.out.blk
            have NG : Hid (w.heap.size ≤ g6) := by
              rcases hat6 with h | h
              · rw [h]; exact LG.out
              · rw [h]; exact Nat.le_trans LB.out.size (by simp)
            have NN : Hid (g6 ≠ gu) := by
              rcases hat6 with h | h
              · rw [h]; exact hne
              · rw [h, Hid]; simp; omega
            have NU : Hid (OI w6 gu ou U.length cu U) := OSl.grown (OSl.below LU.out ((Below.refl _ _).alloc (Nat.le_refl _) _) hub) hg6 (by simpa using hne)
            have NL : Hid (W1.length = W0.length + 1) := by rw [Hid, HR.out]; simp
            have NO : Hid (OC w6 g6 o6 W1.length c6 W1) := by
              rw [Hid, NL.out, HR.out, OC, cvs_snoc]; exact hO6
            have NB : Hid (Below w.heap.size w w6) := below_grown6 (LB.out.alloc LB.out.size _) hg6 LG.out (Nat.le_trans LB.out.size (by simp))
            clear hO6 hg6 hat6 hO2
            go_wp2
            go_roundw
            case rel => exact ⟨kk + 1, g6, o6, c6, by omega, by go_num, by rw [e2.out, hW, NL.out], NG.out, NN.out, by rw [e2.out, hW]; exact NO.out, NU.out, NB.out⟩
            case measure => simp [intOf]; omega
          · have hx' : ¬ ((Q : Int) ≤ (j : Int)) := by omega
            have e1 : j - Q = 0 := by omega
            have e2 : Hid (j + 1 - Q = 0) := by rw [Hid]; omega
            rw [e1] at LO LLE ⊢
            go_wp2
            go_roundw
            case rel => exact ⟨j + 1, g, og, cg, by omega, by go_num, by rw [e2.out], LG.out, hne, by rw [e2.out]; exact LO.out, LU.out, LB.out⟩
            case measure => simp [intOf]; omega
        · obtain rfl : j = M := by omega
          have j1 : ¬ ((j : Int) < (U.length : Int)) := by rw [HUL.out]; omega
          have HF : Hid (AnsC w wr (.returned (.slice (some ⟨g, og, none⟩) (cal R (j - Q)).length cg)) (calL (N : Int) (R : Int))) := by
            rw [Hid, HZ.out, HM.out]
            exact ⟨g, og, cg, rfl, LG.out, LO.out, LB.out⟩
          go_wp2
          go_ret
          exact HF.out
end Go.Proofs.Ytjefneaghlohlaa
