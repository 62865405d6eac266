/-
  Several texts in one: Rzp Rzs.
-/
import Derived.Test.YtgaibngaincahaaGa
import Derived.Test.YtgaibngaincahaaHy
import Derived.Test.YtgaibngaincahaaJf
import Derived.Test.YtgaibngaincahaaKy
/-
  Rows of the group, plain: what a right one is, what a new one is, what may become of one.
-/
namespace Go.Proofs.Ytgaibngaincahaa
set_option linter.unusedVariables false
set_option linter.unusedSimpArgs false
open Go.RowKit Go.Sort

/-- A row. -/
structure Rw where
  ver : Int
  txt : List (List UInt8)
  got : List Int
  sus : List Int
  wed : Bool
  rdy : Bool
  by_ : Int
  trm : List Int
def zeroRw : Rw := ⟨0, [], [], [], false, false, 0, []⟩
/-- Suspects: numbers below n, rising. -/
def susB (l : List Int) (n : Int) : Bool := l.all (fun x => inB x 0 (n - 1)) && risB l
/-- A vector of n numbers of at most 12 each. -/
def smB (v : List Int) (n : Int) : Bool := okB v && (decide ((v.length : Int) = n) && v.all (fun x => decide (x ≤ 12)))
def okRw (r : Rw) (n : Int) : Bool :=
  inB n 1 5 && (inB r.ver 0 1000000 && (decide (r.txt.length ≤ 12) && (smB r.got n && (susB r.sus n && (r.txt.all (fun t => decide (t.length ≤ 20)) &&
    (if r.rdy then r.wed && (inB r.by_ 0 (n - 1) && smB r.trm n) else decide (r.by_ = 0) && decide (r.trm = [])))))))
def newRw (n : Int) : Rw := if inB n 1 5 then ⟨0, [], List.replicate n.toNat 0, [], false, false, 0, []⟩ else zeroRw
/-- What of a may become b. -/
def folB (a b : Rw) (n : Int) : Bool :=
  okRw a n && (okRw b n && (decide (a.ver ≤ b.ver) && (decide (a.txt.length ≤ b.txt.length) && (underB a.got b.got && (a.sus.all (fun x => decide (x ∈ b.sus)) && (decide (b.txt.take a.txt.length = a.txt) &&
    ((!a.wed || b.wed) && (!a.rdy || (b.rdy && decide (a.by_ ≤ b.by_))))))))))
theorem under_refl16 {xs : List Int} (h : okB xs = true) : underB xs xs = true := by
  have : twoB xs xs = true := by simp [twoB, h]
  rw [underB, this, Bool.true_and]
  exact leB_true (fun j hj => Int.le_refl _)
theorem under_trans16 {xs ys zs : List Int} (h1 : underB xs ys = true) (h2 : underB ys zs = true) : underB xs zs = true := by
  simp only [underB, twoB, Bool.and_eq_true, decide_eq_true_eq] at h1 h2 ⊢
  refine ⟨⟨⟨h1.1.1.1, h2.1.1.2⟩, h1.1.2.trans h2.1.2⟩, leB_true (fun j hj => ?_)⟩
  have e1 : el xs j ≤ el ys j := by
    rcases Int.le_total (el xs j) (el ys j) with h | h
    · exact h
    · refine Classical.byContradiction fun hn => ?_
      have := leB_false (ys := ys) hj hn
      rw [h1.2] at this
      cases this
  have hj2 : j < ys.length := by rw [← h1.1.2]; exact hj
  have e2 : el ys j ≤ el zs j := by
    refine Classical.byContradiction fun hn => ?_
    have := leB_false (ys := zs) hj2 hn
    rw [h2.2] at this
    cases this
  omega
theorem okRw_got {r : Rw} {n : Int} (h : okRw r n = true) : okB r.got = true := by
  simp only [okRw, smB, Bool.and_eq_true] at h
  exact h.2.2.2.1.1
/-- A right row follows itself, and no other does. -/
theorem fol_self (r : Rw) (n : Int) : folB r r n = okRw r n := by
  cases h : okRw r n with
  | false => simp [folB, h]
  | true =>
    have hu := under_refl16 (okRw_got h)
    simp only [folB, h, hu, Bool.true_and, List.take_length, decide_true, Int.le_refl, Nat.le_refl]
    cases r.wed <;> cases r.rdy <;> simp
/-- It goes on. -/
theorem fol_trans {a b c : Rw} {n : Int} (h1 : folB a b n = true) (h2 : folB b c n = true) : folB a c n = true := by
  simp only [folB, Bool.and_eq_true, decide_eq_true_eq, List.all_eq_true] at h1 h2 ⊢
  obtain ⟨a1, a2, a3, a4, a5, a6, a7, a8, a9⟩ := h1
  obtain ⟨b1, b2, b3, b4, b5, b6, b7, b8, b9⟩ := h2
  refine ⟨a1, b2, Int.le_trans a3 b3, Nat.le_trans a4 b4, under_trans16 a5 b5, fun x hx => b6 x (a6 x hx), ?_, ?_, ?_⟩
  · have e : (c.txt.take b.txt.length).take a.txt.length = c.txt.take a.txt.length := by rw [List.take_take, Nat.min_eq_left a4]
    rw [← e, b7, a7]
  · revert a8 b8
    cases a.wed <;> cases b.wed <;> cases c.wed <;> simp
  · revert a9 b9
    cases a.rdy <;> cases b.rdy <;> cases c.rdy <;> simp
    omega
end Go.Proofs.Ytgaibngaincahaa

/-
  Rows in memory; the specification's l16Suspects, l16Trim.
-/
namespace Go.Proofs.Ytgaibngaincahaa
set_option linter.unusedVariables false
set_option linter.unusedSimpArgs false
open Go.RowKit Go.Sort

/-- Where a row's lists lie. -/
structure Ra where
  ta : Option Addr
  tc : Nat
  ga : Option Addr
  gc : Nat
  sa : Option Addr
  sc : Nat
  ma : Option Addr
  mc : Nat
def rwC (A : Ra) (r : Rw) : Array Value := #[.int .i64 r.ver, .slice A.ta r.txt.length A.tc, .slice A.ga r.got.length A.gc, .slice A.sa r.sus.length A.sc, .bool r.wed, .bool r.rdy, .int .i64 r.by_, .slice A.ma r.trm.length A.mc]
/-- A row as a value. -/
def rwV (A : Ra) (r : Rw) : Value := .agg (rwC A r)
/-- A row to be read. -/
structure RwS (w : World) (A : Ra) (r : Rw) : Prop where
  txt : TxS w A.ta r.txt
  got : Vec w A.ga r.got.length r.got
  sus : Vec w A.sa r.sus.length r.sus
  trm : Vec w A.ma r.trm.length r.trm
  mt : r.txt.length ≤ maxLen
  mg : r.got.length ≤ maxLen
  ms : r.sus.length ≤ maxLen
  mm : r.trm.length ≤ maxLen
theorem RwS.below {w w' : World} {A : Ra} {r : Rw} (h : RwS w A r) (hb : Below w.heap.size w w') : RwS w' A r := ⟨h.txt.below hb, h.got.below hb (Nat.le_refl _), h.sus.below hb (Nat.le_refl _), h.trm.below hb (Nat.le_refl _), h.mt, h.mg, h.ms, h.mm⟩
theorem Bx.r8 {w : World} {B : Nat} {T : TypeId} {x0 x1 x2 x3 x4 x5 x6 x7 : Value} (h : Bx w B T #[x0, x1, x2, x3, x4, x5, x6, x7]) : (w.cell? ⟨B, 0, none⟩ = some x0 ∧ w.cell? ⟨B, 1, none⟩ = some x1 ∧ w.cell? ⟨B, 2, none⟩ = some x2 ∧ w.cell? ⟨B, 3, none⟩ = some x3) ∧ w.cell? ⟨B, 4, none⟩ = some x4 ∧ w.cell? ⟨B, 5, none⟩ = some x5 ∧ w.cell? ⟨B, 6, none⟩ = some x6 ∧ w.cell? ⟨B, 7, none⟩ = some x7 :=
  ⟨⟨h.at 0 rfl, h.at 1 rfl, h.at 2 rfl, h.at 3 rfl⟩, h.at 4 rfl, h.at 5 rfl, h.at 6 rfl, h.at 7 rfl⟩
theorem oneA16 (w : World) (o : Obj) : Below w.heap.size w (w.alloc o) := (Below.refl _ _).alloc (Nat.le_refl _) _
theorem susB_miss {l : List Int} {n : Int} {k : Nat} (hk : k < l.length) (h : inB (el l k) 0 (n - 1) = false) : susB l n = false := by
  have : l.all (fun x => inB x 0 (n - 1)) = false := by
    rw [List.all_eq_false]
    exact ⟨el l k, el_mem hk, by simp [h]⟩
  rw [susB, this]
  rfl
theorem susB_all {l : List Int} {n : Int} (h : ∀ k, k < l.length → inB (el l k) 0 (n - 1) = true) : susB l n = risB l := by
  have : l.all (fun x => inB x 0 (n - 1)) = true := by
    rw [List.all_eq_true]
    intro x hx
    obtain ⟨j, hj, rfl⟩ := List.mem_iff_getElem.1 hx
    have := h j hj
    simpa [el, hj] using this
  rw [susB, this]
  rfl
set_option maxRecDepth 100000 in
set_option maxHeartbeats 1600000 in
theorem susS_any (a : Option Addr) (cap : Nat) (l : List Int) (n : Int) (w : World) (hv : Vec w a l.length l) (hm : l.length ≤ maxLen) (hn : -1000 ≤ n ∧ n ≤ 1000) :
    Calls Try.prog 70 #[.slice a l.length cap, .int .i64 n] w fun e w' => e = .returned (.bool (susB l n)) ∧ Below w.heap.size w w' := by
  have hR := l1Rises_any a l.length cap l w hv hm
  have HV : Hid (Vec w a l.length l) := hv
  have hwn : wrap64 (n - 1) = n - 1 := by unfold wrap64; omega
  unfold maxLen at hm
  clear hv
  go_enter Try.func70, Try.ntmps70
  go_wp2
  go_loop [5] (fun i => ∃ k : Nat, k ≤ l.length ∧ i = .int .i64 k ∧ ∀ j, j < k → inB (el l j) 0 (n - 1) = true) (fun i => l.length - (intOf i).toNat)
  case atStart => exact ⟨0, Nat.zero_le _, rfl, fun j hj => by omega⟩
  case round =>
    obtain ⟨k, hk, rfl, hall⟩ := hrel
    have HA : Hid (∀ j, j < k → inB (el l j) 0 (n - 1) = true) := hall
    clear hall
    by_cases hlt : k < l.length
    · rcases HV.out.2.2 with h0 | ⟨b, off, rfl, hc⟩
      · omega
      have hck := hc k hlt
      have k1 : (k : Int) < (l.length : Int) := by omega
      have k0 : (0 : Int) ≤ (k : Int) := by omega
      have hI := fun X => l1In_any (el l k) 0 (n - 1) X
      clear hc
      cases hb : inB (el l k) 0 (n - 1) with
      | true =>
        rw [hb] at hI
        have HN : Hid (∀ j, j < k + 1 → inB (el l j) 0 (n - 1) = true) := fun j hj => by
          rcases Nat.lt_succ_iff_lt_or_eq.1 hj with h1 | h1
          · exact HA.out j h1
          · rw [h1]; exact hb
        generalize el l k = x at *
        clear hb
        go_wp2_with (go_at_call 62; refine (hI _).mono ?_; rintro e w' ⟨rfl, hw'⟩; rw [hw']; clear hw')
        go_round
        case rel => exact ⟨k + 1, by omega, by go_num, HN.out⟩
        case measure => simp [intOf]; omega
      | false =>
        rw [hb] at hI
        have HZ : Hid (susB l n = false) := susB_miss hlt hb
        generalize el l k = x at *
        clear hb
        go_wp2_with (go_at_call 62; refine (hI _).mono ?_; rintro e w' ⟨rfl, hw'⟩; rw [hw']; clear hw')
        go_ret
        exact ⟨ret_bool (by rw [HZ.out]), Below.refl _ _⟩
    · have k1 : ¬ ((k : Int) < (l.length : Int)) := by omega
      have HZ : Hid (susB l n = risB l) := susB_all (fun j hj => HA.out j (by omega))
      generalize risB l = Q at *
      go_wp2_with (go_at_call 95; refine hR.mono ?_; rintro e w2 ⟨rfl, q, hw2⟩)
      go_ret
      exact ⟨ret_bool (by rw [HZ.out]), belowN (Below.refl _ _)⟩
theorem smB_parts {v : List Int} {n : Int} (h1 : okB v = true) (h2 : (v.length : Int) = n) (h3 : ∀ k, k < v.length → el v k ≤ 12) : smB v n = true := by
  have : v.all (fun x => decide (x ≤ 12)) = true := by
    rw [List.all_eq_true]
    intro x hx
    obtain ⟨j, hj, rfl⟩ := List.mem_iff_getElem.1 hx
    have := h3 j hj
    simpa [el, hj] using this
  rw [smB, h1, this, decide_eq_true h2]
  rfl
theorem smB_not {v : List Int} {n : Int} {k : Nat} (hk : k < v.length) (h : ¬ el v k ≤ 12) : smB v n = false := by
  have : v.all (fun x => decide (x ≤ 12)) = false := by
    rw [List.all_eq_false]
    exact ⟨el v k, el_mem hk, by simpa using h⟩
  rw [smB, this]
  simp
set_option maxRecDepth 100000 in
set_option maxHeartbeats 1600000 in
theorem trmS16_any (a : Option Addr) (cap : Nat) (l : List Int) (n : Int) (w : World) (hv : Vec w a l.length l) (hm : l.length ≤ maxLen) :
    Calls Try.prog 71 #[.slice a l.length cap, .int .i64 n] w fun e w' => e = .returned (.bool (smB l n)) ∧ w' = w := by
  have hO := specOk_any a l.length cap l w hv hm
  have HV : Hid (Vec w a l.length l) := hv
  unfold maxLen at hm
  clear hv
  cases hok : okB l with
  | false =>
    have HZ : Hid (smB l n = false) := by rw [Hid, smB, hok]; rfl
    rw [hok] at hO
    clear hok
    go_enter Try.func71, Try.ntmps71
    go_wp2_with (go_at_call 25; refine hO.mono ?_; rintro e w' ⟨rfl, hw'⟩; rw [hw']; clear hw')
    go_ret
    exact ⟨ret_bool (by rw [HZ.out]), rfl⟩
  | true =>
    rw [hok] at hO
    by_cases hl : (l.length : Int) = n
    · have e1 : ((l.length : Int) != n) = false := by simpa using hl
      have HP : Hid ((∀ k, k < l.length → el l k ≤ 12) → smB l n = true) := fun h => smB_parts hok hl h
      clear hok hl
      go_enter Try.func71, Try.ntmps71
      go_wp2_with (go_at_call 25; refine hO.mono ?_; rintro e w' ⟨rfl, hw'⟩; rw [hw']; clear hw')
      go_loop [5] (fun i => ∃ k : Nat, k ≤ l.length ∧ i = .int .i64 k ∧ ∀ j, j < k → el l j ≤ 12) (fun i => l.length - (intOf i).toNat)
      case atStart => exact ⟨0, Nat.zero_le _, rfl, fun j hj => by omega⟩
      case round =>
        obtain ⟨k, hk, rfl, hall⟩ := hrel
        have HA : Hid (∀ j, j < k → el l j ≤ 12) := hall
        clear hall
        by_cases hlt : k < l.length
        · rcases HV.out.2.2 with h0 | ⟨b, off, rfl, hc⟩
          · omega
          have hck := hc k hlt
          have k1 : (k : Int) < (l.length : Int) := by omega
          have k0 : (0 : Int) ≤ (k : Int) := by omega
          clear hc
          by_cases h12 : el l k ≤ 12
          · have g12 : ¬ (12 < el l k) := by omega
            have HN : Hid (∀ j, j < k + 1 → el l j ≤ 12) := fun j hj => by
              rcases Nat.lt_succ_iff_lt_or_eq.1 hj with h1 | h1
              · exact HA.out j h1
              · rw [h1]; exact h12
            generalize el l k = x at *
            clear h12
            go_wp2
            go_round
            case rel => exact ⟨k + 1, by omega, by go_num, HN.out⟩
            case measure => simp [intOf]; omega
          · have g12 : 12 < el l k := by omega
            have HZ : Hid (smB l n = false) := smB_not hlt h12
            generalize el l k = x at *
            clear h12
            go_wp2
            go_ret
            exact ⟨ret_bool (by rw [HZ.out]), rfl⟩
        · have k1 : ¬ ((k : Int) < (l.length : Int)) := by omega
          have HZ : Hid (smB l n = true) := HP.out (fun j hj => HA.out j (by omega))
          go_wp2
          go_ret
          exact ⟨ret_bool (by rw [HZ.out]), rfl⟩
    · have e1 : ((l.length : Int) != n) = true := by simpa using hl
      have HZ : Hid (smB l n = false) := by rw [Hid, smB, decide_eq_false hl]; simp
      clear hok hl
      go_enter Try.func71, Try.ntmps71
      go_wp2_with (go_at_call 25; refine hO.mono ?_; rintro e w' ⟨rfl, hw'⟩; rw [hw']; clear hw')
      go_ret
      exact ⟨ret_bool (by rw [HZ.out]), rfl⟩
end Go.Proofs.Ytgaibngaincahaa
