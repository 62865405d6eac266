/-
  Several texts in one: Wnd Wns Wna.
-/
import Derived.Test.YtkompamocpnefaaHh
import Derived.Test.YtkompamocpnefaaGa
/-
  Windows as plain numbers; the contracts of the specification's WindowOk, l8Open and Open.
-/
namespace Go.Proofs.Ytkompamocpnefaa
set_option linter.unusedVariables false
set_option linter.unusedSimpArgs false
open Go.RowKit Go.Sort

/-- Is it a window as told? -/
def wokB (sz st : Int) (xs : List Int) : Bool := inB sz 1 20 && inB st 0 1000000 && okB xs && xs.all (fun x => decide (x ≤ st)) && decide (st - sz ≤ leastB xs)
/-- Is there room for one more? -/
def op1B (sz st : Int) (xs : List Int) : Bool := decide (st - leastB xs < sz) && decide (st < 1000000)
def opnB (sz st : Int) (xs : List Int) : Bool := wokB sz st xs && op1B sz st xs
/-- An answer of Sent and of Acked. -/
structure Aw where
  sz : Int
  st : Int
  xs : List Int
  ok : Bool
def sentL (sz st : Int) (xs : List Int) : Aw := if wokB sz st xs then (if op1B sz st xs then ⟨sz, st + 1, xs, true⟩ else ⟨sz, st, xs, false⟩) else ⟨0, 0, [], false⟩
/-- Is it a count that may be acked? -/
def ackB (st : Int) (xs : List Int) (who n : Int) : Bool := inB who 0 ((xs.length : Int) - 1) && inB n (el xs who.toNat) st
def ackL (sz st : Int) (xs : List Int) (who n : Int) : Aw := if wokB sz st xs then (if ackB st xs who n then ⟨sz, st, xs.set who.toNat n, true⟩ else ⟨sz, st, xs, false⟩) else ⟨0, 0, [], false⟩

/-- A window as a value. -/
def wiV (sz st : Int) (a : Option Addr) (len cap : Nat) : Value := .agg #[.int .i64 sz, .int .i64 st, .slice a len cap]
theorem mixedW : Try.prog.follows .mixedOrders = true := by kernel_rfl

theorem wokB_iff {sz st : Int} {xs : List Int} : wokB sz st xs = true ↔ (1 ≤ sz ∧ sz ≤ 20) ∧ (0 ≤ st ∧ st ≤ 1000000) ∧ okB xs = true ∧ (∀ i, i < xs.length → el xs i ≤ st) ∧ st - sz ≤ leastB xs := by
  have e : xs.all (fun x => decide (x ≤ st)) = true ↔ ∀ i, i < xs.length → el xs i ≤ st := by
    simp only [List.all_eq_true, decide_eq_true_eq]
    constructor
    · intro h i hi; exact h _ (el_mem hi)
    · intro h x hx
      obtain ⟨i, hi, rfl⟩ := List.getElem_of_mem hx
      have := h i hi
      rwa [el_eq hi] at this
  have e1 : inB sz 1 20 = true ↔ 1 ≤ sz ∧ sz ≤ 20 := by simp [inB]
  have e2 : inB st 0 1000000 = true ↔ 0 ≤ st ∧ st ≤ 1000000 := by simp [inB]
  unfold wokB
  rw [Bool.and_eq_true, Bool.and_eq_true, Bool.and_eq_true, Bool.and_eq_true, e, e1, e2, decide_eq_true_eq]
  constructor
  · rintro ⟨⟨⟨⟨a, b⟩, c⟩, d⟩, f⟩; exact ⟨a, b, c, d, f⟩
  · rintro ⟨a, b, c, d, f⟩; exact ⟨⟨⟨⟨a, b⟩, c⟩, d⟩, f⟩
theorem leastB_bd (xs : List Int) : -1 ≤ leastB xs ∧ leastB xs ≤ 1000000 := by
  unfold leastB
  by_cases h : okB xs = true
  · rw [if_pos h]
    have h18 := okB_len h
    have he := okB_ends h18.1 h18.2
    rw [h] at he
    have he' := he.symm
    simp only [Bool.and_eq_true, decide_eq_true_eq] at he'
    have h0 := okB_el h (i := 0) (by omega)
    have hle : loL (el xs 0) xs.tail ≤ el xs 0 := by
      have : ∀ (l : List Int) (x : Int), loL x l ≤ x := by
        intro l; induction l with
        | nil => intro x; simp [loL]
        | cons y l ih => intro x; have := ih (min x y); unfold loL at this ⊢; simp only [List.foldl_cons]; omega
      exact this _ _
    omega
  · rw [if_neg h]; omega

set_option maxRecDepth 100000 in
set_option maxHeartbeats 1600000 in
theorem winS_any (sz st : Int) (a : Option Addr) (len cap : Nat) (xs : List Int) (w : World) (hv : Vec w a len xs) (hm : len ≤ maxLen) :
    Calls Try.prog 34 #[wiV sz st a len cap] w fun e w' => e = .returned (.bool (wokB sz st xs)) ∧ Grew w w' := by
  unfold wiV
  have hG0 : Grew w (w.alloc (.cells #[.int .i64 sz, .int .i64 st, .slice a len cap] 34)) := (Grew.refl _).alloc _
  have hvW := hv.below hG0.1 (Nat.le_refl _)
  have hV := specOk_any a len cap xs _ hvW hm
  have hLs := fun wr (h : Grew (w.alloc (.cells #[.int .i64 sz, .int .i64 st, .slice a len cap] 34)) wr) n => specLeast_any a len cap xs _ ((hvW.below h.1 (Nat.le_refl _)).drewN n) hm
  cases e0 : inB sz 1 20 with
  | false =>
    have HZ : Hid (wokB sz st xs = false) := by rw [Hid, wokB, e0]; rfl
    clear hV hLs hvW
    go_enter Try.func34, Try.ntmps34
    go_wp2_with (go_at_call 60; refine (l1In_any _ _ _ _).mono ?_; rintro e w' ⟨rfl, rfl⟩)
    go_ret
    exact ⟨ret_bool (by rw [HZ.out]), hG0⟩
  | true =>
    cases e1 : inB st 0 1000000 with
    | false =>
      have HZ : Hid (wokB sz st xs = false) := by rw [Hid, wokB, e0, e1]; rfl
      clear hV hLs hvW
      go_enter Try.func34, Try.ntmps34
      go_wp2_with (go_at_call 60; refine (l1In_any _ _ _ _).mono ?_; rintro e w' ⟨rfl, rfl⟩)
      go_ret
      exact ⟨ret_bool (by rw [HZ.out]), hG0⟩
    | true =>
      cases e2 : okB xs with
      | false =>
        rw [e2] at hV
        have HZ : Hid (wokB sz st xs = false) := by rw [Hid, wokB, e0, e1, e2]; rfl
        clear hLs hvW e2
        go_enter Try.func34, Try.ntmps34
        go_wp2_with (first | (go_at_call 60; refine (l1In_any _ _ _ _).mono ?_; rintro e w' ⟨rfl, rfl⟩) | (go_at_call 25; refine hV.mono ?_; rintro e w' ⟨rfl, rfl⟩))
        go_ret
        exact ⟨ret_bool (by rw [HZ.out]), hG0⟩
      | true =>
        rw [e2] at hV
        have h18 := okB_len e2
        have b0 : 1 ≤ sz ∧ sz ≤ 20 := by simpa [inB] using e0
        have b1 : 0 ≤ st ∧ st ≤ 1000000 := by simpa [inB] using e1
        have hl := hv.1
        obtain ⟨b, off, rfl, hc⟩ := hvW.cells (by omega)
        have HF : Hid (∀ k, k < len → st < el xs k → wokB sz st xs = false) := fun k hk h => by
          rw [← Bool.not_eq_true]
          intro hw
          have := (wokB_iff.1 hw).2.2.2.1 k (by omega)
          omega
        have HT : Hid ((∀ k, k < len → el xs k ≤ st) → wokB sz st xs = decide (st - sz ≤ leastB xs)) := fun h => by
          rw [Bool.eq_iff_iff, wokB_iff, decide_eq_true_eq]
          exact ⟨fun k => k.2.2.2.2, fun k => ⟨b0, b1, e2, fun i hi => h i (by omega), k⟩⟩
        have h8 : len ≤ 8 := by omega
        have c0 : (w.alloc (.cells #[.int .i64 sz, .int .i64 st, .slice (some ⟨b, off, none⟩) len cap] 34)).cell? ⟨w.heap.size, 0, none⟩ = some (.int .i64 sz) := by simp
        have c1 : (w.alloc (.cells #[.int .i64 sz, .int .i64 st, .slice (some ⟨b, off, none⟩) len cap] 34)).cell? ⟨w.heap.size, 1, none⟩ = some (.int .i64 st) := by simp
        have c2 : (w.alloc (.cells #[.int .i64 sz, .int .i64 st, .slice (some ⟨b, off, none⟩) len cap] 34)).cell? ⟨w.heap.size, 2, none⟩ = some (.slice (some ⟨b, off, none⟩) len cap) := by simp
        have hlb := leastB_bd xs
        clear hvW hl e2 h18 hv
        generalize hW0 : w.alloc (.cells #[.int .i64 sz, .int .i64 st, .slice (some ⟨b, off, none⟩) len cap] 34) = W0 at *
        generalize leastB xs = L at *
        go_enter Try.func34, Try.ntmps34
        go_wp2_with (first | (go_at_call 60; refine (l1In_any _ _ _ _).mono ?_; rintro e w' ⟨rfl, hw'⟩; rw [hw']; clear hw') | (go_at_call 25; refine hV.mono ?_; rintro e w' ⟨rfl, hw'⟩; rw [hw']; clear hw'))
        go_loopw [3] (fun i wr => ∃ k : Nat, k ≤ len ∧ i = .int .i64 k ∧ (∀ j, j < k → el xs j ≤ st) ∧ Grew W0 wr) (fun i _ => len - (intOf i).toNat)
        case atStart => exact ⟨0, Nat.zero_le _, rfl, fun j hj => by omega, Grew.refl _⟩
        case round =>
          obtain ⟨k, hk, rfl, hall, hgr⟩ := hrel
          have HG : Hid (Grew w wr) := hG0.trans hgr
          have d0 := hgr.cell c0
          have d1 := hgr.cell c1
          have d2 := hgr.cell c2
          have HA : Hid (∀ j, j < k → el xs j ≤ st) := hall
          clear hall
          by_cases hlt : k < len
          · have hck := hgr.cell (hc k hlt)
            have HG0 : Hid (Grew W0 wr) := hgr
            clear hgr
            have k1 : (k : Int) < (len : Int) := by omega
            have k0 : (0 : Int) ≤ (k : Int) := by omega
            by_cases hgt : st < el xs k
            · have HZ : Hid (wokB sz st xs = false) := HF.out k hlt hgt
              go_wp2_with fail
              go_quiet (fail)
              go_wp2
              go_ret
              exact ⟨ret_bool (by rw [HZ.out]), HG.out.drewN _⟩
            · have hd : decide (st < el xs k) = false := by simpa using hgt
              have HA' : Hid (∀ j, j < k + 1 → el xs j ≤ st) := fun j hj => by
                by_cases e : j = k
                · subst e; omega
                · exact HA.out j (by omega)
              go_wp2_with fail
              go_quiet (fail)
              go_wp2
              go_roundw
              case rel => exact ⟨k + 1, by omega, by go_num, HA'.out, HG0.out.drewN _⟩
              case measure => simp [intOf]; omega
          · have hkl : k = len := by omega
            subst hkl
            have HZ : Hid (wokB sz st xs = decide (st - sz ≤ L)) := HT.out HA.out
            have hL2 : ∀ n, Calls Try.prog 23 #[.slice (some ⟨b, off, none⟩) k cap] (wr.drewN n) fun e w' => e = .returned (.int .i64 L) ∧ ∃ m, w' = wr.drewN m := fun n => (hLs wr hgr n).mono (fun e w' h => ⟨h.1, n, h.2⟩)
            clear hgr
            go_wp2_with fail
            go_quiet ((go_at_call 23; exact hL2 _))
            go_wp2
            go_ret
            exact ⟨ret_bool (by rw [HZ.out]), HG.out.drewN _⟩
end Go.Proofs.Ytkompamocpnefaa

/-
  The contracts of the specification's Open, l8Copy, Sent and Acked.
-/
namespace Go.Proofs.Ytkompamocpnefaa
set_option linter.unusedVariables false
set_option linter.unusedSimpArgs false
open Go.RowKit Go.Sort

set_option maxRecDepth 100000 in
set_option maxHeartbeats 1600000 in
theorem op1S_any (sz st : Int) (a : Option Addr) (len cap : Nat) (xs : List Int) (w : World) (hv : Vec w a len xs) (hm : len ≤ maxLen) (hst : 0 ≤ st ∧ st ≤ 1000000) :
    Calls Try.prog 70 #[wiV sz st a len cap] w fun e w' => e = .returned (.bool (op1B sz st xs)) ∧ Grew w w' := by
  unfold wiV
  have HG : Hid (Grew w (w.alloc (.cells #[.int .i64 sz, .int .i64 st, .slice a len cap] 34))) := (Grew.refl _).alloc _
  have hvW := hv.below HG.out.1 (Nat.le_refl _)
  have hLs := fun n => specLeast_any a len cap xs _ (hvW.drewN n) hm
  have c0 : (w.alloc (.cells #[.int .i64 sz, .int .i64 st, .slice a len cap] 34)).cell? ⟨w.heap.size, 0, none⟩ = some (.int .i64 sz) := by simp
  have c1 : (w.alloc (.cells #[.int .i64 sz, .int .i64 st, .slice a len cap] 34)).cell? ⟨w.heap.size, 1, none⟩ = some (.int .i64 st) := by simp
  have c2 : (w.alloc (.cells #[.int .i64 sz, .int .i64 st, .slice a len cap] 34)).cell? ⟨w.heap.size, 2, none⟩ = some (.slice a len cap) := by simp
  have hlb := leastB_bd xs
  have HO : Hid (op1B sz st xs = (decide (st - leastB xs < sz) && decide (st < 1000000))) := rfl
  clear hvW
  generalize op1B sz st xs = R at *
  generalize leastB xs = L at *
  generalize hW0 : w.alloc (.cells #[.int .i64 sz, .int .i64 st, .slice a len cap] 34) = W0 at *
  have hL2 : ∀ n, Calls Try.prog 23 #[.slice a len cap] (W0.drewN n) fun e w' => e = .returned (.int .i64 L) ∧ ∃ m, w' = W0.drewN m := fun n => (hLs n).mono (fun e w' h => ⟨h.1, n, h.2⟩)
  clear hLs
  by_cases h1 : st - L < sz
  · have hd : decide (st - L < sz) = true := by simpa using h1
    have HR : Hid (R = decide (st < 1000000)) := by rw [Hid, HO.out, hd]; rfl
    clear HO
    go_enter Try.func70, Try.ntmps70
    go_wp2_with fail
    go_quiet ((go_at_call 23; exact hL2 _))
    go_wp2
    go_ret
    exact ⟨ret_bool (by rw [HR.out]), HG.out.drewN _⟩
  · have hd : decide (st - L < sz) = false := by simpa using h1
    have HR : Hid (R = false) := by rw [Hid, HO.out, hd]; rfl
    clear HO
    go_enter Try.func70, Try.ntmps70
    go_wp2_with fail
    go_quiet ((go_at_call 23; exact hL2 _))
    go_wp2
    go_ret
    exact ⟨ret_bool (by rw [HR.out]), HG.out.drewN _⟩

set_option maxRecDepth 100000 in
set_option maxHeartbeats 1600000 in
theorem opnS_any (sz st : Int) (a : Option Addr) (len cap : Nat) (xs : List Int) (w : World) (hv : Vec w a len xs) (hm : len ≤ maxLen) :
    Calls Try.prog 36 #[wiV sz st a len cap] w fun e w' => e = .returned (.bool (opnB sz st xs)) ∧ Grew w w' := by
  have HG : Hid (Grew w (w.alloc (.cells #[.int .i64 sz, .int .i64 st, .slice a len cap] 34))) := (Grew.refl _).alloc _
  have hvW := hv.below HG.out.1 (Nat.le_refl _)
  have hW := winS_any sz st a len cap xs _ hvW hm
  have c0 : (w.alloc (.cells #[.int .i64 sz, .int .i64 st, .slice a len cap] 34)).cell? ⟨w.heap.size, 0, none⟩ = some (.int .i64 sz) := by simp
  have c1 : (w.alloc (.cells #[.int .i64 sz, .int .i64 st, .slice a len cap] 34)).cell? ⟨w.heap.size, 1, none⟩ = some (.int .i64 st) := by simp
  have c2 : (w.alloc (.cells #[.int .i64 sz, .int .i64 st, .slice a len cap] 34)).cell? ⟨w.heap.size, 2, none⟩ = some (.slice a len cap) := by simp
  generalize hW0 : w.alloc (.cells #[.int .i64 sz, .int .i64 st, .slice a len cap] 34) = W0 at *
  cases hb : wokB sz st xs with
  | false =>
    rw [hb] at hW
    have HZ : Hid (opnB sz st xs = false) := by rw [Hid, opnB, hb]; rfl
    clear hb
    unfold wiV at *
    go_enter Try.func36, Try.ntmps36
    go_wp2_with (go_at_call 34; refine hW.mono ?_; rintro e w1 ⟨rfl, hg1⟩)
    go_ret
    exact ⟨ret_bool (by rw [HZ.out]), HG.out.trans hg1⟩
  | true =>
    rw [hb] at hW
    have hst := (wokB_iff.1 hb).2.1
    have HZ : Hid (opnB sz st xs = op1B sz st xs) := by rw [Hid, opnB, hb]; rfl
    have hO := fun w1 (h : Grew W0 w1) => op1S_any sz st a len cap xs w1 (hvW.below h.1 (Nat.le_refl _)) hm hst
    clear hb
    generalize op1B sz st xs = R at *
    unfold wiV at *
    go_enter Try.func36, Try.ntmps36
    go_wp2_with (first | (go_at_call 34; refine hW.mono ?_; rintro e w1 ⟨rfl, hg1⟩; have d0 := hg1.cell c0; have d1 := hg1.cell c1; have d2 := hg1.cell c2) | (go_at_call 70; refine (hO w1 hg1).mono ?_; rintro e w2 ⟨rfl, hg2⟩))
    go_ret
    exact ⟨ret_bool (by rw [HZ.out]), (HG.out.trans hg1).trans hg2⟩

/-- A window that is an answer: its list in memory of its own, or none. -/
def SlN (w w' : World) (a : Option Addr) (c : Nat) (Z : List Int) : Prop := (Z = [] ∧ c ≤ maxLen) ∨ ∃ g off, a = some ⟨g, off, none⟩ ∧ w.heap.size ≤ g ∧ OI w' g off Z.length c Z
/-- What Sent and Acked answer. -/
def AnsW (w w' : World) (e : Ending) (R : Aw) : Prop := ∃ a c, e = .returned (.tuple #[wiV R.sz R.st a R.xs.length c, .bool R.ok]) ∧ SlN w w' a c R.xs ∧ Below w.heap.size w w'

theorem num_other {w : World} {g off n cap p i : Nat} {v : Value} {zs : List Int} (h : OI w g off n cap zs) (hne : g ≠ p) : OI (w.setCell ⟨p, i, none⟩ v) g off n cap zs :=
  OSl.of_block h ((grown_set (grown_refl w (some p)) i v).block g h.blk (by simp [hne])) (by simp [World.setCell]; exact h.blk)
/-- A window in a block of three cells. -/
def WinAt (w : World) (B : Nat) (sz st : Int) (v : Value) : Prop := w.heap[B]? = some (.cells #[.int .i64 sz, .int .i64 st, v] 34 (0, 0))
theorem WinAt.lt {w : World} {B : Nat} {sz st : Int} {v : Value} (h : WinAt w B sz st v) : B < w.heap.size := (Array.getElem?_eq_some_iff.1 h).1
theorem WinAt.c0 {w : World} {B : Nat} {sz st : Int} {v : Value} (h : WinAt w B sz st v) : w.cell? ⟨B, 0, none⟩ = some (.int .i64 sz) := by simp [World.cell?, show w.heap[B]? = _ from h]
theorem WinAt.c1 {w : World} {B : Nat} {sz st : Int} {v : Value} (h : WinAt w B sz st v) : w.cell? ⟨B, 1, none⟩ = some (.int .i64 st) := by simp [World.cell?, show w.heap[B]? = _ from h]
theorem WinAt.c2 {w : World} {B : Nat} {sz st : Int} {v : Value} (h : WinAt w B sz st v) : w.cell? ⟨B, 2, none⟩ = some v := by simp [World.cell?, show w.heap[B]? = _ from h]
theorem WinAt.f {w : World} {B : Nat} {sz st : Int} {v : Value} (h : WinAt w B sz st v) (i : Nat) : w.frozen? ⟨B, i, none⟩ = false := by simp [World.frozen?, show w.heap[B]? = _ from h]
theorem WinAt.new (w : World) (sz st : Int) (v : Value) : WinAt (w.alloc (.cells #[.int .i64 sz, .int .i64 st, v] 34)) w.heap.size sz st v := heap_alloc_new w _
theorem WinAt.grown {w w' : World} {r : Option Nat} {B : Nat} {sz st : Int} {v : Value} (h : WinAt w B sz st v) (hg : w.grownBy w' r) (hne : some B ≠ r) : WinAt w' B sz st v := (hg.block B h.lt hne).trans h
theorem WinAt.alloc {w : World} {B : Nat} {sz st : Int} {v : Value} (h : WinAt w B sz st v) (o : Obj) : WinAt (w.alloc o) B sz st v := h.grown (World.grownBy_alloc w o none) (by simp)
theorem WinAt.grew {w w' : World} {B : Nat} {sz st : Int} {v : Value} (h : WinAt w B sz st v) (hg : Grew w w') : WinAt w' B sz st v := (hg.1.block B h.lt).trans h
theorem WinAt.below {w w' : World} {B : Nat} {sz st : Int} {v : Value} (h : WinAt w B sz st v) (hg : Below w.heap.size w w') : WinAt w' B sz st v := (hg.block B h.lt).trans h

set_option maxRecDepth 100000 in
set_option maxHeartbeats 1600000 in
theorem copyS_any (sz st : Int) (b off len cap : Nat) (xs : List Int) (w : World) (hlen : xs.length = len) (hc : ∀ i, i < len → w.cell? ⟨b, off + i, none⟩ = some (.int .i64 (el xs i))) (h8 : len ≤ 8) (h1 : 1 ≤ len) :
    Calls Try.prog 69 #[wiV sz st (some ⟨b, off, none⟩) len cap] w fun e w' => ∃ g o c, e = .returned (wiV sz st (some ⟨g, o, none⟩) len c) ∧ w.heap.size ≤ g ∧ OI w' g o len c xs ∧ Below w.heap.size w w' := by
  obtain ⟨i0, hi0, hz0, hz1, hz2⟩ := info_parts2n Try.info2n
  unfold wiV
  subst hlen
  have HG : Hid (Grew w (((w.alloc (.cells #[.int .i64 sz, .int .i64 st, .slice (some ⟨b, off, none⟩) xs.length cap] 34)).alloc (.cells #[.int .i64 0, .int .i64 0, .slice none 0 0] 34)).alloc (.cells #[] 2))) := (((Grew.refl _).alloc _).alloc _).alloc _
  have hE : OI (((w.alloc (.cells #[.int .i64 sz, .int .i64 st, .slice (some ⟨b, off, none⟩) xs.length cap] 34)).alloc (.cells #[.int .i64 0, .int .i64 0, .slice none 0 0] 34)).alloc (.cells #[] 2)) (w.heap.size + 1 + 1) 0 0 0 [] := by
    have := num_empty ((w.alloc (.cells #[.int .i64 sz, .int .i64 st, .slice (some ⟨b, off, none⟩) xs.length cap] 34)).alloc (.cells #[.int .i64 0, .int .i64 0, .slice none 0 0] 34)) 2
    simpa using this
  have q0 : WinAt (((w.alloc (.cells #[.int .i64 sz, .int .i64 st, .slice (some ⟨b, off, none⟩) xs.length cap] 34)).alloc (.cells #[.int .i64 0, .int .i64 0, .slice none 0 0] 34)).alloc (.cells #[] 2)) w.heap.size sz st (.slice (some ⟨b, off, none⟩) xs.length cap) := ((WinAt.new _ _ _ _).alloc _).alloc _
  have r0 : WinAt (((w.alloc (.cells #[.int .i64 sz, .int .i64 st, .slice (some ⟨b, off, none⟩) xs.length cap] 34)).alloc (.cells #[.int .i64 0, .int .i64 0, .slice none 0 0] 34)).alloc (.cells #[] 2)) (w.heap.size + 1) 0 0 (.slice none 0 0) := by
    have := (WinAt.new (w.alloc (.cells #[.int .i64 sz, .int .i64 st, .slice (some ⟨b, off, none⟩) xs.length cap] 34)) 0 0 (.slice none 0 0)).alloc (.cells #[] 2)
    simpa using this
  have hsz : (((w.alloc (.cells #[.int .i64 sz, .int .i64 st, .slice (some ⟨b, off, none⟩) xs.length cap] 34)).alloc (.cells #[.int .i64 0, .int .i64 0, .slice none 0 0] 34)).alloc (.cells #[] 2)).heap.size = w.heap.size + 1 + 1 + 1 := by simp
  go_enter Try.func69, Try.ntmps69
  go_wp2_with (at_builtin; refine wpList_append_os _ rfl _ _ _ rfl 2 i0 _ 1 8 Try.underlying24 hi0 hz0 hz1 hz2 rfl (by omega) _ _ _ _ _ rfl hE ⟨b, off, none⟩ xs.length cap (xs.map (Value.int .i64)) rfl (by simp) (num_news (fun i hi => HG.out.cell (hc i hi))) (by simp [Value.oneCell']) (by unfold maxLen; omega) (by omega) ?_; intro g' off' cap' w' ho hg hat; have k0 := q0.grown hg (by simp <;> omega); have k1 := r0.grown hg (by simp <;> omega); have k00 := k0.c0; have k01 := k0.c1; have k02 := k0.c2; have k0f := k0.f 2; have k10 := k1.c0; have k11 := k1.c1; have k12 := k1.c2; have k1f := k1.f 0; have k1g := k1.f 1; have k1h := k1.f 2)
  have hO : OI w' g' off' xs.length cap' xs := by
    have := ho
    simpa [OI] using this
  have hgg : w.heap.size + 1 + 1 ≤ g' := by rcases hat with h | h <;> omega
  have hB : Below w.heap.size w w' := below_grown6 HG.out.1 hg (by omega) (by omega)
  refine bodyPost_ret (v := .agg #[.int .i64 sz, .int .i64 st, .slice (some ⟨g', off', none⟩) xs.length cap']) (by simp [results, Try.results69, go_sem, *]) rfl ⟨g', off', cap', rfl, by omega, ?_, ?_⟩
  · exact num_other (num_other (num_other (num_other hO (by omega)) (by omega)) (by omega)) (by omega)
  · exact (((hB.setCell (p := ⟨w.heap.size, 2, none⟩) (Nat.le_refl _) _).setCell (p := ⟨w.heap.size + 1, 0, none⟩) (Nat.le_succ _) _).setCell (p := ⟨w.heap.size + 1, 1, none⟩) (Nat.le_succ _) _).setCell (p := ⟨w.heap.size + 1, 2, none⟩) (Nat.le_succ _) _
end Go.Proofs.Ytkompamocpnefaa

/-
  The contracts of the specification's Sent and Acked.
-/
namespace Go.Proofs.Ytkompamocpnefaa
set_option linter.unusedVariables false
set_option linter.unusedSimpArgs false
open Go.RowKit Go.Sort

theorem sentL_no {sz st : Int} {xs : List Int} (h : wokB sz st xs = false) : sentL sz st xs = ⟨0, 0, [], false⟩ := by rw [sentL, h]; rfl
theorem sentL_full {sz st : Int} {xs : List Int} (h : wokB sz st xs = true) (h2 : op1B sz st xs = false) : sentL sz st xs = ⟨sz, st, xs, false⟩ := by rw [sentL, h, h2]; rfl
theorem sentL_ok {sz st : Int} {xs : List Int} (h : wokB sz st xs = true) (h2 : op1B sz st xs = true) : sentL sz st xs = ⟨sz, st + 1, xs, true⟩ := by rw [sentL, h, h2]; rfl

/-- Three stores into one block. -/
theorem set3 {B g : Nat} {w w' : World} (h : Below B w w') (hg : B ≤ g) {x y z : Value} : Below B w (((w'.setCell ⟨g, 0, none⟩ x).setCell ⟨g, 1, none⟩ y).setCell ⟨g, 2, none⟩ z) :=
  ((h.setCell (p := ⟨g, 0, none⟩) hg x).setCell (p := ⟨g, 1, none⟩) hg y).setCell (p := ⟨g, 2, none⟩) hg z
theorem num3 {w : World} {g off n cap p : Nat} {x y z : Value} {zs : List Int} (h : OI w g off n cap zs) (hne : g ≠ p) : OI (((w.setCell ⟨p, 0, none⟩ x).setCell ⟨p, 1, none⟩ y).setCell ⟨p, 2, none⟩ z) g off n cap zs :=
  num_other (num_other (num_other h hne) hne) hne

set_option maxRecDepth 100000 in
set_option maxHeartbeats 3200000 in
theorem sentS_any (sz st : Int) (a : Option Addr) (len cap : Nat) (xs : List Int) (w : World) (hv : Vec w a len xs) (hm : len ≤ maxLen) :
    Calls Try.prog 31 #[wiV sz st a len cap] w fun e w' => AnsW w w' e (sentL sz st xs) := by
  have HG : Hid (Grew w ((w.alloc (.cells #[.int .i64 sz, .int .i64 st, .slice a len cap] 34)).alloc (.cells #[.int .i64 0, .int .i64 0, .slice none 0 0] 34))) := ((Grew.refl _).alloc _).alloc _
  have hvW := hv.below HG.out.1 (Nat.le_refl _)
  have hW := winS_any sz st a len cap xs _ hvW hm
  have q0 : WinAt ((w.alloc (.cells #[.int .i64 sz, .int .i64 st, .slice a len cap] 34)).alloc (.cells #[.int .i64 0, .int .i64 0, .slice none 0 0] 34)) w.heap.size sz st (.slice a len cap) := (WinAt.new _ _ _ _).alloc _
  have r0 : WinAt ((w.alloc (.cells #[.int .i64 sz, .int .i64 st, .slice a len cap] 34)).alloc (.cells #[.int .i64 0, .int .i64 0, .slice none 0 0] 34)) (w.heap.size + 1) 0 0 (.slice none 0 0) := by
    have := WinAt.new (w.alloc (.cells #[.int .i64 sz, .int .i64 st, .slice a len cap] 34)) 0 0 (.slice none 0 0)
    simpa using this
  have hs0 : ((w.alloc (.cells #[.int .i64 sz, .int .i64 st, .slice a len cap] 34)).alloc (.cells #[.int .i64 0, .int .i64 0, .slice none 0 0] 34)).heap.size = w.heap.size + 1 + 1 := by simp
  generalize hW0 : (w.alloc (.cells #[.int .i64 sz, .int .i64 st, .slice a len cap] 34)).alloc (.cells #[.int .i64 0, .int .i64 0, .slice none 0 0] 34) = W0 at *
  have c0 := q0.c0
  have c1 := q0.c1
  have c2 := q0.c2
  cases hb : wokB sz st xs with
  | false =>
    rw [hb] at hW
    have HZ : Hid (sentL sz st xs = ⟨0, 0, [], false⟩) := sentL_no hb
    clear hb
    unfold wiV at *
    go_enter Try.func31, Try.ntmps31
    go_wp2_with (go_at_call 34; refine hW.mono ?_; rintro e w1 ⟨rfl, hg1⟩; have t1 := r0.grew hg1; have t10 := t1.c0; have t11 := t1.c1; have t12 := t1.c2; have t1f := t1.f 0; have t1g := t1.f 1; have t1h := t1.f 2)
    refine bodyPost_ret (v := .tuple #[.agg #[.int .i64 0, .int .i64 0, .slice none 0 0], .bool false]) (by simp [results, Try.results31, go_sem, *]) rfl ?_
    rw [HZ.out]
    have hB : Below w.heap.size w w1 := HG.out.1.trans (hg1.1.mono HG.out.1.size)
    exact ⟨none, 0, rfl, .inl ⟨rfl, Nat.zero_le _⟩, set3 hB (Nat.le_succ _)⟩
  | true =>
    rw [hb] at hW
    obtain ⟨_, hst, hok, _, _⟩ := wokB_iff.1 hb
    have h18 := okB_len hok
    have hl := hv.1
    obtain ⟨b, off, rfl, hc⟩ := hvW.cells (by omega)
    have hC := fun w1 (h : Grew W0 w1) => copyS_any sz st b off len cap xs w1 hl (fun i hi => h.cell (hc i hi)) (by omega) (by omega)
    have hO := fun w2 (h : Below W0.heap.size W0 w2) => op1S_any sz st (some ⟨b, off, none⟩) len cap xs w2 (hvW.below h (Nat.le_refl _)) hm hst
    clear hvW hv h18
    cases ho : op1B sz st xs with
    | false =>
      rw [ho] at hO
      have HZ : Hid (sentL sz st xs = ⟨sz, st, xs, false⟩) := sentL_full hb ho
      clear hb ho
      unfold wiV at *
      go_enter Try.func31, Try.ntmps31
      go_wp2_with (first | (go_at_call 34; refine hW.mono ?_; rintro e w1 ⟨rfl, hg1⟩; have q1 := q0.grew hg1; have r1 := r0.grew hg1; have d0 := q1.c0; have d1 := q1.c1; have d2 := q1.c2) | (go_at_call 69; refine (hC w1 hg1).mono ?_; rintro e w2 ⟨g, o, c, rfl, hgs, hoi, hb2⟩; have z3 := WinAt.new w2 sz st (.slice (some ⟨g, o, none⟩) len c); have q3 := (q1.below hb2).alloc (.cells #[.int .i64 sz, .int .i64 st, .slice (some ⟨g, o, none⟩) len c] 34); have r3 := (r1.below hb2).alloc (.cells #[.int .i64 sz, .int .i64 st, .slice (some ⟨g, o, none⟩) len c] 34); have B3 : Below W0.heap.size W0 (w2.alloc (.cells #[.int .i64 sz, .int .i64 st, .slice (some ⟨g, o, none⟩) len c] 34)) := (hg1.1.trans (hb2.mono hg1.1.size)).alloc (Nat.le_trans hg1.1.size hb2.size) _; have s3 := hg1.1.size; have lt1 := r1.lt; have lt2 := hb2.size; have n1 : w.heap.size + 1 ≠ w2.heap.size := (by omega); have n2 : w2.heap.size ≠ w.heap.size + 1 := (by omega); have oi3 := hoi.below ((Below.refl _ w2).alloc (Nat.le_refl _) (.cells #[.int .i64 sz, .int .i64 st, .slice (some ⟨g, o, none⟩) len c] 34)) hoi.blk; obtain ⟨W3, hW3⟩ : ∃ W3, w2.alloc (.cells #[.int .i64 sz, .int .i64 st, .slice (some ⟨g, o, none⟩) len c] 34) = W3 := ⟨_, rfl⟩; rw [hW3] at z3 q3 r3 B3 oi3; have e0 := q3.c0; have e1 := q3.c1; have e2 := q3.c2) | (go_at_call 70; refine (hO W3 B3).mono ?_; rintro e w4 ⟨rfl, hg4⟩; have z4 := z3.grew hg4; have r4 := r3.grew hg4; have oi4 := oi3.below hg4.1 oi3.blk; have t40 := r4.c0; have t41 := r4.c1; have t42 := r4.c2; have t4f := r4.f 0; have t4g := r4.f 1; have t4h := r4.f 2; have y0 := z4.c0; have y1 := z4.c1; have y2 := z4.c2; have y1f := z4.f 1))
      refine bodyPost_ret (v := .tuple #[.agg #[.int .i64 sz, .int .i64 st, .slice (some ⟨g, o, none⟩) len c], .bool false]) (by simp [results, Try.results31, go_sem, t40, t41, t42]) rfl ?_
      rw [HZ.out]
      have hB : Below w.heap.size w w4 := HG.out.1.trans ((B3.trans (hg4.1.mono B3.size)).mono HG.out.1.size)
      have hlt := r1.lt
      refine ⟨some ⟨g, o, none⟩, c, by simp [wiV, hl], .inr ⟨g, o, rfl, by omega, ?_⟩, set3 hB (Nat.le_succ _)⟩
      rw [hl]
      exact num3 oi4 (by omega)
    | true =>
      rw [ho] at hO
      have HZ : Hid (sentL sz st xs = ⟨sz, st + 1, xs, true⟩) := sentL_ok hb ho
      clear hb ho
      unfold wiV at *
      go_enter Try.func31, Try.ntmps31
      go_wp2_with (first | (go_at_call 34; refine hW.mono ?_; rintro e w1 ⟨rfl, hg1⟩; have q1 := q0.grew hg1; have r1 := r0.grew hg1; have d0 := q1.c0; have d1 := q1.c1; have d2 := q1.c2) | (go_at_call 69; refine (hC w1 hg1).mono ?_; rintro e w2 ⟨g, o, c, rfl, hgs, hoi, hb2⟩; have z3 := WinAt.new w2 sz st (.slice (some ⟨g, o, none⟩) len c); have q3 := (q1.below hb2).alloc (.cells #[.int .i64 sz, .int .i64 st, .slice (some ⟨g, o, none⟩) len c] 34); have r3 := (r1.below hb2).alloc (.cells #[.int .i64 sz, .int .i64 st, .slice (some ⟨g, o, none⟩) len c] 34); have B3 : Below W0.heap.size W0 (w2.alloc (.cells #[.int .i64 sz, .int .i64 st, .slice (some ⟨g, o, none⟩) len c] 34)) := (hg1.1.trans (hb2.mono hg1.1.size)).alloc (Nat.le_trans hg1.1.size hb2.size) _; have s3 := hg1.1.size; have lt1 := r1.lt; have lt2 := hb2.size; have n1 : w.heap.size + 1 ≠ w2.heap.size := (by omega); have n2 : w2.heap.size ≠ w.heap.size + 1 := (by omega); have oi3 := hoi.below ((Below.refl _ w2).alloc (Nat.le_refl _) (.cells #[.int .i64 sz, .int .i64 st, .slice (some ⟨g, o, none⟩) len c] 34)) hoi.blk; obtain ⟨W3, hW3⟩ : ∃ W3, w2.alloc (.cells #[.int .i64 sz, .int .i64 st, .slice (some ⟨g, o, none⟩) len c] 34) = W3 := ⟨_, rfl⟩; rw [hW3] at z3 q3 r3 B3 oi3; have e0 := q3.c0; have e1 := q3.c1; have e2 := q3.c2) | (go_at_call 70; refine (hO W3 B3).mono ?_; rintro e w4 ⟨rfl, hg4⟩; have z4 := z3.grew hg4; have r4 := r3.grew hg4; have oi4 := oi3.below hg4.1 oi3.blk; have t40 := r4.c0; have t41 := r4.c1; have t42 := r4.c2; have t4f := r4.f 0; have t4g := r4.f 1; have t4h := r4.f 2; have y0 := z4.c0; have y1 := z4.c1; have y2 := z4.c2; have y1f := z4.f 1))
      refine bodyPost_ret (v := .tuple #[.agg #[.int .i64 sz, .int .i64 (st + 1), .slice (some ⟨g, o, none⟩) len c], .bool true]) (by simp [results, Try.results31, go_sem, t40, t41, t42, n1, n2]) rfl ?_
      rw [HZ.out]
      have hB : Below w.heap.size w w4 := HG.out.1.trans ((B3.trans (hg4.1.mono B3.size)).mono HG.out.1.size)
      have hlt := r1.lt
      have hgb := hoi.blk
      refine ⟨some ⟨g, o, none⟩, c, by simp [wiV, hl], .inr ⟨g, o, rfl, by omega, ?_⟩, set3 (hB.setCell (p := ⟨w2.heap.size, 1, none⟩) (by show w.heap.size ≤ w2.heap.size; omega) _) (Nat.le_succ _)⟩
      rw [hl]
      exact num3 (num_other oi4 (by omega)) (by omega)

theorem ackL_no {sz st : Int} {xs : List Int} {who n : Int} (h : wokB sz st xs = false) : ackL sz st xs who n = ⟨0, 0, [], false⟩ := by rw [ackL, h]; rfl
theorem ackL_not {sz st : Int} {xs : List Int} {who n : Int} (h : wokB sz st xs = true) (h2 : ackB st xs who n = false) : ackL sz st xs who n = ⟨sz, st, xs, false⟩ := by rw [ackL, h, h2]; rfl
theorem ackL_ok {sz st : Int} {xs : List Int} {who n : Int} (h : wokB sz st xs = true) (h2 : ackB st xs who n = true) : ackL sz st xs who n = ⟨sz, st, xs.set who.toNat n, true⟩ := by rw [ackL, h, h2]; rfl

set_option maxRecDepth 100000 in
set_option maxHeartbeats 3200000 in
theorem ackS_any (sz st : Int) (a : Option Addr) (len cap : Nat) (xs : List Int) (who n : Int) (w : World) (hv : Vec w a len xs) (hm : len ≤ maxLen) :
    Calls Try.prog 37 #[wiV sz st a len cap, .int .i64 who, .int .i64 n] w fun e w' => AnsW w w' e (ackL sz st xs who n) := by
  have HG : Hid (Grew w ((w.alloc (.cells #[.int .i64 sz, .int .i64 st, .slice a len cap] 34)).alloc (.cells #[.int .i64 0, .int .i64 0, .slice none 0 0] 34))) := ((Grew.refl _).alloc _).alloc _
  have hvW := hv.below HG.out.1 (Nat.le_refl _)
  have hW := winS_any sz st a len cap xs _ hvW hm
  have q0 : WinAt ((w.alloc (.cells #[.int .i64 sz, .int .i64 st, .slice a len cap] 34)).alloc (.cells #[.int .i64 0, .int .i64 0, .slice none 0 0] 34)) w.heap.size sz st (.slice a len cap) := (WinAt.new _ _ _ _).alloc _
  have r0 : WinAt ((w.alloc (.cells #[.int .i64 sz, .int .i64 st, .slice a len cap] 34)).alloc (.cells #[.int .i64 0, .int .i64 0, .slice none 0 0] 34)) (w.heap.size + 1) 0 0 (.slice none 0 0) := by
    have := WinAt.new (w.alloc (.cells #[.int .i64 sz, .int .i64 st, .slice a len cap] 34)) 0 0 (.slice none 0 0)
    simpa using this
  have hs0 : ((w.alloc (.cells #[.int .i64 sz, .int .i64 st, .slice a len cap] 34)).alloc (.cells #[.int .i64 0, .int .i64 0, .slice none 0 0] 34)).heap.size = w.heap.size + 1 + 1 := by simp
  generalize hW0 : (w.alloc (.cells #[.int .i64 sz, .int .i64 st, .slice a len cap] 34)).alloc (.cells #[.int .i64 0, .int .i64 0, .slice none 0 0] 34) = W0 at *
  have c0 := q0.c0
  have c1 := q0.c1
  have c2 := q0.c2
  cases hb : wokB sz st xs with
  | false =>
    rw [hb] at hW
    have HZ : Hid (ackL sz st xs who n = ⟨0, 0, [], false⟩) := ackL_no hb
    clear hb
    unfold wiV at *
    go_enter Try.func37, Try.ntmps37
    go_wp2_with (go_at_call 34; refine hW.mono ?_; rintro e w1 ⟨rfl, hg1⟩; have t1 := r0.grew hg1; have t10 := t1.c0; have t11 := t1.c1; have t12 := t1.c2; have t1f := t1.f 0; have t1g := t1.f 1; have t1h := t1.f 2)
    refine bodyPost_ret (v := .tuple #[.agg #[.int .i64 0, .int .i64 0, .slice none 0 0], .bool false]) (by simp [results, Try.results37, go_sem, t10, t11, t12]) rfl ?_
    rw [HZ.out]
    have hB : Below w.heap.size w w1 := HG.out.1.trans (hg1.1.mono HG.out.1.size)
    exact ⟨none, 0, rfl, .inl ⟨rfl, Nat.zero_le _⟩, set3 hB (Nat.le_succ _)⟩
  | true =>
    rw [hb] at hW
    obtain ⟨_, hst, hok, _, _⟩ := wokB_iff.1 hb
    have h18 := okB_len hok
    have hl := hv.1
    obtain ⟨b, off, rfl, hc⟩ := hvW.cells (by omega)
    have hC := fun w1 (h : Grew W0 w1) => copyS_any sz st b off len cap xs w1 hl (fun i hi => h.cell (hc i hi)) (by omega) (by omega)
    have h8 : len ≤ 8 := by omega
    have h1 : 1 ≤ len := by omega
    have hcW : ∀ X, Below W0.heap.size W0 X → ∀ i, i < len → X.cell? ⟨b, off + i, none⟩ = some (.int .i64 (el xs i)) := fun X hX i hi => (hX.cell (World.block_lt_of_cell? _ _ (hc i hi))).trans (hc i hi)
    clear hvW hv h18 hc
    cases e1 : inB who 0 ((len : Int) - 1) with
    | false =>
      have HZ : Hid (ackL sz st xs who n = ⟨sz, st, xs, false⟩) := ackL_not hb (by rw [ackB, hl, e1]; rfl)
      clear hb
      unfold wiV at *
      go_enter Try.func37, Try.ntmps37
      go_wp2_with (first | (go_at_call 34; refine hW.mono ?_; rintro e w1 ⟨rfl, hg1⟩; have q1 := q0.grew hg1; have r1 := r0.grew hg1; have d0 := q1.c0; have d1 := q1.c1; have d2 := q1.c2) | (go_at_call 69; refine (hC w1 hg1).mono ?_; rintro e w2 ⟨g, o, c, rfl, hgs, hoi, hb2⟩; have z3 := WinAt.new w2 sz st (.slice (some ⟨g, o, none⟩) len c); have q3 := (q1.below hb2).alloc (.cells #[.int .i64 sz, .int .i64 st, .slice (some ⟨g, o, none⟩) len c] 34); have r3 := (r1.below hb2).alloc (.cells #[.int .i64 sz, .int .i64 st, .slice (some ⟨g, o, none⟩) len c] 34); have B3 : Below W0.heap.size W0 (w2.alloc (.cells #[.int .i64 sz, .int .i64 st, .slice (some ⟨g, o, none⟩) len c] 34)) := (hg1.1.trans (hb2.mono hg1.1.size)).alloc (Nat.le_trans hg1.1.size hb2.size) _; have s3 := hg1.1.size; have lt1 := r1.lt; have lt2 := hb2.size; have n1 : w.heap.size + 1 ≠ w2.heap.size := (by omega); have n2 : w2.heap.size ≠ w.heap.size + 1 := (by omega); have oi3 := hoi.below ((Below.refl _ w2).alloc (Nat.le_refl _) (.cells #[.int .i64 sz, .int .i64 st, .slice (some ⟨g, o, none⟩) len c] 34)) hoi.blk; obtain ⟨W3, hW3⟩ : ∃ W3, w2.alloc (.cells #[.int .i64 sz, .int .i64 st, .slice (some ⟨g, o, none⟩) len c] 34) = W3 := ⟨_, rfl⟩; rw [hW3] at z3 q3 r3 B3 oi3; have e0 := q3.c0; have e1 := q3.c1; have e2 := q3.c2))
      go_quiet ((go_at_call 60; exact (l1In_any _ _ _ _).mono (fun e w' h => ⟨h.1, _, h.2⟩)))
      have y0 := z3.c0
      have y1 := z3.c1
      have y2 := z3.c2
      have t0 := r3.c0
      have t1 := r3.c1
      have t2 := r3.c2
      have tf := r3.f 0
      have tg := r3.f 1
      have th := r3.f 2
      go_wp2
      refine bodyPost_ret (v := .tuple #[.agg #[.int .i64 sz, .int .i64 st, .slice (some ⟨g, o, none⟩) len c], .bool false]) (by simp [results, Try.results37, go_sem, t0, t1, t2]) rfl ?_
      rw [HZ.out]
      have hB : Below w.heap.size w (W3.drewN nq) := belowN (HG.out.1.trans (B3.mono HG.out.1.size))
      refine ⟨some ⟨g, o, none⟩, c, by simp [wiV, hl], .inr ⟨g, o, rfl, by omega, ?_⟩, set3 hB (Nat.le_succ _)⟩
      rw [hl]
      exact num3 (oi3.drewN nq) (by omega)
    | true =>
      have hk := e1
      simp only [inB, Bool.and_eq_true, decide_eq_true_eq] at hk
      obtain ⟨k, rfl⟩ : ∃ k : Nat, who = (k : Int) := ⟨who.toNat, by omega⟩
      have hkl : k < len := by omega
      have k1 : (k : Int) < (len : Int) := by omega
      have k0 : (0 : Int) ≤ (k : Int) := by omega
      cases e2 : inB n (el xs k) st with
      | false =>
        have HZ : Hid (ackL sz st xs (k : Int) n = ⟨sz, st, xs, false⟩) := ackL_not hb (by rw [ackB, hl, e1]; simpa using e2)
        clear hb hk
        unfold wiV at *
        go_enter Try.func37, Try.ntmps37
        go_wp2_with (first | (go_at_call 34; refine hW.mono ?_; rintro e w1 ⟨rfl, hg1⟩; have q1 := q0.grew hg1; have r1 := r0.grew hg1; have d0 := q1.c0; have d1 := q1.c1; have d2 := q1.c2) | (go_at_call 69; refine (hC w1 hg1).mono ?_; rintro e w2 ⟨g, o, c, rfl, hgs, hoi, hb2⟩; have z3 := WinAt.new w2 sz st (.slice (some ⟨g, o, none⟩) len c); have q3 := (q1.below hb2).alloc (.cells #[.int .i64 sz, .int .i64 st, .slice (some ⟨g, o, none⟩) len c] 34); have r3 := (r1.below hb2).alloc (.cells #[.int .i64 sz, .int .i64 st, .slice (some ⟨g, o, none⟩) len c] 34); have B3 : Below W0.heap.size W0 (w2.alloc (.cells #[.int .i64 sz, .int .i64 st, .slice (some ⟨g, o, none⟩) len c] 34)) := (hg1.1.trans (hb2.mono hg1.1.size)).alloc (Nat.le_trans hg1.1.size hb2.size) _; have s3 := hg1.1.size; have lt1 := r1.lt; have lt2 := hb2.size; have n1 : w.heap.size + 1 ≠ w2.heap.size := (by omega); have n2 : w2.heap.size ≠ w.heap.size + 1 := (by omega); have oi3 := hoi.below ((Below.refl _ w2).alloc (Nat.le_refl _) (.cells #[.int .i64 sz, .int .i64 st, .slice (some ⟨g, o, none⟩) len c] 34)) hoi.blk; obtain ⟨W3, hW3⟩ : ∃ W3, w2.alloc (.cells #[.int .i64 sz, .int .i64 st, .slice (some ⟨g, o, none⟩) len c] 34) = W3 := ⟨_, rfl⟩; rw [hW3] at z3 q3 r3 B3 oi3; have e0 := q3.c0; have e1 := q3.c1; have e2 := q3.c2))
        have hck := hcW W3 B3 k hkl
        go_quiet ((go_at_call 60; exact (l1In_any _ _ _ _).mono (fun e w' h => ⟨h.1, _, h.2⟩)))
        have y0 := z3.c0
        have y1 := z3.c1
        have y2 := z3.c2
        have t0 := r3.c0
        have t1 := r3.c1
        have t2 := r3.c2
        have tf := r3.f 0
        have tg := r3.f 1
        have th := r3.f 2
        go_wp2
        refine bodyPost_ret (v := .tuple #[.agg #[.int .i64 sz, .int .i64 st, .slice (some ⟨g, o, none⟩) len c], .bool false]) (by simp [results, Try.results37, go_sem, t0, t1, t2]) rfl ?_
        rw [HZ.out]
        have hB : Below w.heap.size w (W3.drewN nq) := belowN (HG.out.1.trans (B3.mono HG.out.1.size))
        refine ⟨some ⟨g, o, none⟩, c, by simp [wiV, hl], .inr ⟨g, o, rfl, by omega, ?_⟩, set3 hB (Nat.le_succ _)⟩
        rw [hl]
        exact num3 (oi3.drewN nq) (by omega)
      | true =>
        have HZ : Hid (ackL sz st xs (k : Int) n = ⟨sz, st, xs.set k n, true⟩) := by
          have := ackL_ok (who := (k : Int)) (n := n) hb (by rw [ackB, hl, e1]; simpa using e2)
          rw [Hid]
          simpa using this
        clear hb hk
        unfold wiV at *
        go_enter Try.func37, Try.ntmps37
        go_wp2_with (first | (go_at_call 34; refine hW.mono ?_; rintro e w1 ⟨rfl, hg1⟩; have q1 := q0.grew hg1; have r1 := r0.grew hg1; have d0 := q1.c0; have d1 := q1.c1; have d2 := q1.c2) | (go_at_call 69; refine (hC w1 hg1).mono ?_; rintro e w2 ⟨g, o, c, rfl, hgs, hoi, hb2⟩; have z3 := WinAt.new w2 sz st (.slice (some ⟨g, o, none⟩) len c); have q3 := (q1.below hb2).alloc (.cells #[.int .i64 sz, .int .i64 st, .slice (some ⟨g, o, none⟩) len c] 34); have r3 := (r1.below hb2).alloc (.cells #[.int .i64 sz, .int .i64 st, .slice (some ⟨g, o, none⟩) len c] 34); have B3 : Below W0.heap.size W0 (w2.alloc (.cells #[.int .i64 sz, .int .i64 st, .slice (some ⟨g, o, none⟩) len c] 34)) := (hg1.1.trans (hb2.mono hg1.1.size)).alloc (Nat.le_trans hg1.1.size hb2.size) _; have s3 := hg1.1.size; have lt1 := r1.lt; have lt2 := hb2.size; have n1 : w.heap.size + 1 ≠ w2.heap.size := (by omega); have n2 : w2.heap.size ≠ w.heap.size + 1 := (by omega); have oi3 := hoi.below ((Below.refl _ w2).alloc (Nat.le_refl _) (.cells #[.int .i64 sz, .int .i64 st, .slice (some ⟨g, o, none⟩) len c] 34)) hoi.blk; obtain ⟨W3, hW3⟩ : ∃ W3, w2.alloc (.cells #[.int .i64 sz, .int .i64 st, .slice (some ⟨g, o, none⟩) len c] 34) = W3 := ⟨_, rfl⟩; rw [hW3] at z3 q3 r3 B3 oi3; have e0 := q3.c0; have e1 := q3.c1; have e2 := q3.c2))
        have hck := hcW W3 B3 k hkl
        go_quiet ((go_at_call 60; exact (l1In_any _ _ _ _).mono (fun e w' h => ⟨h.1, _, h.2⟩)))
        have y0 := z3.c0
        have y1 := z3.c1
        have y2 := z3.c2
        have t0 := r3.c0
        have t1 := r3.c1
        have t2 := r3.c2
        have tf := r3.f 0
        have tg := r3.f 1
        have th := r3.f 2
        have gk := oi3.cellAt hkl
        have gf := oi3.free k (by have := oi3.le; omega)
        have hgb := hoi.blk
        have m1 : g ≠ w2.heap.size := by omega
        have m2 : w2.heap.size ≠ g := by omega
        have m3 : g ≠ w.heap.size + 1 := by omega
        have m4 : w.heap.size + 1 ≠ g := by omega
        have HB : Hid (Below w.heap.size w (W3.drewN nq)) := belowN (HG.out.1.trans (B3.mono HG.out.1.size))
        have HN : Hid (OI ((W3.drewN nq).setCell ⟨g, o + k, none⟩ (.int .i64 n)) g o len c (xs.set k n)) := num_set (oi3.drewN nq) hkl n
        go_wp2
        refine bodyPost_ret (v := .tuple #[.agg #[.int .i64 sz, .int .i64 st, .slice (some ⟨g, o, none⟩) len c], .bool true]) (by simp [results, Try.results37, go_sem, t0, t1, t2, m1, m2, m3, m4]) rfl ?_
        rw [HZ.out]
        refine ⟨some ⟨g, o, none⟩, c, by simp [wiV, hl], .inr ⟨g, o, rfl, by omega, ?_⟩, set3 (HB.out.setCell (p := ⟨g, o + k, none⟩) (by show w.heap.size ≤ g; omega) _) (Nat.le_succ _)⟩
        simp only [List.length_set]
        rw [hl]
        exact num3 HN.out m3
end Go.Proofs.Ytkompamocpnefaa
