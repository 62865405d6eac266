/-
  Several texts in one: Wpl LawWin.
-/
import Derived.Test.YtkompamocpnefaaIl
/-
  What Sent and Acked make of windows, plainly; likeWindow; a window in a box with its list.
-/
namespace Go.Proofs.Ytkompamocpnefaa
set_option linter.unusedVariables false
set_option linter.unusedSimpArgs false
open Go.RowKit Go.Sort

theorem le_loL {m : Int} : ∀ (l : List Int) (x : Int), m ≤ loL x l ↔ m ≤ x ∧ ∀ y ∈ l, m ≤ y := by
  intro l
  induction l with
  | nil => intro x; simp [loL]
  | cons y l ih =>
    intro x
    have := ih (min x y)
    unfold loL at this ⊢
    simp only [List.foldl_cons, List.mem_cons, forall_eq_or_imp]
    rw [this, Int.le_min]
    exact ⟨fun h => ⟨h.1.1, h.1.2, h.2⟩, fun h => ⟨⟨h.1, h.2.1⟩, h.2.2⟩⟩
theorem le_leastB {m : Int} {xs : List Int} (h : okB xs = true) : m ≤ leastB xs ↔ ∀ i, i < xs.length → m ≤ el xs i := by
  have h1 := (okB_len h).1
  rw [leastB, if_pos h, le_loL]
  match xs, h1 with
  | x :: l, _ =>
    constructor
    · rintro ⟨a, b⟩ i hi
      rw [el_eq hi]
      rcases List.mem_cons.1 (List.getElem_mem hi) with e | e
      · rw [e]; exact a
      · exact b _ e
    · intro k
      refine ⟨k 0 (by simp), fun y hy => ?_⟩
      obtain ⟨i, hi, rfl⟩ := List.getElem_of_mem hy
      have := k (i + 1) (by simp at hi ⊢; omega)
      rw [el_eq (by simp at hi ⊢; omega)] at this
      simpa using this
theorem okB_iff {xs : List Int} : okB xs = true ↔ (1 ≤ xs.length ∧ xs.length ≤ 8) ∧ ∀ i, i < xs.length → 0 ≤ el xs i ∧ el xs i ≤ 1000000 := by
  constructor
  · intro h
    exact ⟨okB_len h, fun i hi => okB_el h hi⟩
  · rintro ⟨⟨h1, h8⟩, h⟩
    exact okB_true_of h1 h8 (fun j hj => by have := h j hj; simp [inB]; omega)
/-- Behind Sent a window is right, and open just where it was sent. -/
theorem sent_right {sz st : Int} {xs : List Int} (h : wokB sz st xs = true) : (sentL sz st xs).ok = opnB sz st xs ∧ wokB (sentL sz st xs).sz (sentL sz st xs).st (sentL sz st xs).xs = true := by
  obtain ⟨h1, h2, h3, h4, h5⟩ := wokB_iff.1 h
  cases ho : op1B sz st xs with
  | false => rw [sentL_full h ho]; exact ⟨by rw [opnB, h, ho]; rfl, h⟩
  | true =>
    rw [sentL_ok h ho]
    refine ⟨by rw [opnB, h, ho]; rfl, ?_⟩
    dsimp only
    simp only [op1B, Bool.and_eq_true, decide_eq_true_eq] at ho
    exact wokB_iff.2 ⟨h1, ⟨by omega, by omega⟩, h3, fun i hi => by have := h4 i hi; omega, by omega⟩
theorem sent_full {sz st : Int} {xs : List Int} (h : wokB sz st xs = true) (hk : (sentL sz st xs).ok = false) : (sentL sz st xs).sz = sz ∧ (sentL sz st xs).st = st ∧ (sentL sz st xs).xs = xs := by
  cases ho : op1B sz st xs with
  | false => rw [sentL_full h ho]; exact ⟨rfl, rfl, rfl⟩
  | true => rw [sentL_ok h ho] at hk; cases hk
theorem sent_more {sz st : Int} {xs : List Int} (h : wokB sz st xs = true) (hk : (sentL sz st xs).ok = true) : (sentL sz st xs).st = st + 1 ∧ (sentL sz st xs).st - leastB (sentL sz st xs).xs ≤ (sentL sz st xs).sz ∧ 0 ≤ st ∧ st < 1000000 := by
  obtain ⟨h1, h2, h3, h4, h5⟩ := wokB_iff.1 h
  cases ho : op1B sz st xs with
  | false => rw [sentL_full h ho] at hk; cases hk
  | true =>
    rw [sentL_ok h ho]
    simp only [op1B, Bool.and_eq_true, decide_eq_true_eq] at ho
    dsimp only
    omega
theorem ack_right {sz st : Int} {xs : List Int} {who n : Int} (hk : (ackL sz st xs who n).ok = true) :
    wokB (ackL sz st xs who n).sz (ackL sz st xs who n).st (ackL sz st xs who n).xs = true ∧ (0 ≤ who ∧ who.toNat < (ackL sz st xs who n).xs.length) ∧ el (ackL sz st xs who n).xs who.toNat = n ∧ (ackL sz st xs who n).st = st ∧ n ≤ st := by
  cases h : wokB sz st xs with
  | false => rw [ackL_no h] at hk; cases hk
  | true =>
    cases ho : ackB st xs who n with
    | false => rw [ackL_not h ho] at hk; cases hk
    | true =>
      rw [ackL_ok h ho]
      obtain ⟨h1, h2, h3, h4, h5⟩ := wokB_iff.1 h
      simp only [ackB, inB, Bool.and_eq_true, decide_eq_true_eq] at ho
      obtain ⟨hw, hn⟩ := ho
      dsimp only
      have hlt : who.toNat < xs.length := by omega
      have hel := okB_el h3 hlt
      have es : ∀ i, i < xs.length → el (xs.set who.toNat n) i = if i = who.toNat then n else el xs i := fun i hi => by
        by_cases e : i = who.toNat
        · subst e; simp [el, hi]
        · simp [el, List.getElem?_set, e, Ne.symm e]
      have hok : okB (xs.set who.toNat n) = true := okB_iff.2 ⟨by simpa using okB_len h3, fun i hi => by
        rw [List.length_set] at hi
        rw [es i hi]
        have := okB_el h3 hi
        split <;> omega⟩
      refine ⟨wokB_iff.2 ⟨h1, h2, hok, fun i hi => ?_, (le_leastB hok).2 (fun i hi => ?_)⟩, ⟨hw.1, by simpa using hlt⟩, ?_, by omega⟩
      · rw [List.length_set] at hi
        rw [es i hi]
        have := h4 i hi
        split <;> omega
      · rw [List.length_set] at hi
        rw [es i hi]
        have := (le_leastB h3).1 h5 i hi
        split
        · rename_i e
          rw [e] at this
          omega
        · exact this
      · rw [es _ hlt, if_pos rfl]

/-- A window in a box, with its list. -/
structure Wx (X : World) (B : Nat) (sz st : Int) (a : Option Addr) (c : Nat) (xs : List Int) : Prop where
  box : Bx X B 34 #[.int .i64 sz, .int .i64 st, .slice a xs.length c]
  vec : Vec X a xs.length xs
  cp : xs.length ≤ c ∧ c ≤ maxLen
theorem Wx.below {X X' : World} {B : Nat} {sz st : Int} {a : Option Addr} {c : Nat} {xs : List Int} (h : Wx X B sz st a c xs) (hb : Below X.heap.size X X') : Wx X' B sz st a c xs := ⟨h.box.below hb, h.vec.below hb (Nat.le_refl _), h.cp⟩
theorem Wx.new {X : World} {sz st : Int} {a : Option Addr} {c : Nat} {xs : List Int} (h : Vec X a xs.length xs) (hc : xs.length ≤ c ∧ c ≤ maxLen) : Wx (X.alloc (.cells #[.int .i64 sz, .int .i64 st, .slice a xs.length c] 34)) X.heap.size sz st a c xs :=
  ⟨Bx.new _ _ _, h.below (one_alloc _ _) (Nat.le_refl _), hc⟩

set_option maxRecDepth 100000 in
set_option maxHeartbeats 800000 in
theorem likeW_any (sz st : Int) (a1 a2 : Option Addr) (len c1 c2 : Nat) (Z : List Int) (w : World) (h1 : Vec w a1 len Z) (h2 : Vec w a2 len Z) (hm : len ≤ maxLen) :
    Calls Try.prog 32 #[.agg #[.int .i64 sz, .int .i64 st, .slice a1 len c1], .agg #[.int .i64 sz, .int .i64 st, .slice a2 len c2]] w fun e w' => e = .returned (.bool true) ∧ Below w.heap.size w w' := by
  have hB : Below w.heap.size w ((w.alloc (.cells #[.int .i64 sz, .int .i64 st, .slice a1 len c1] 34)).alloc (.cells #[.int .i64 sz, .int .i64 st, .slice a2 len c2] 34)) := ((Below.refl _ _).alloc (Nat.le_refl _) _).alloc (by simp) _
  have hE := like_any a1 a2 len c1 len c2 Z Z _ (h1.below hB (Nat.le_refl _)) (h2.below hB (Nat.le_refl _)) hm
  rw [sameB_self] at hE
  have b0 : (sz == sz) = true := by simp
  have b1 : (st == st) = true := by simp
  have z1 : Bx ((w.alloc (.cells #[.int .i64 sz, .int .i64 st, .slice a1 len c1] 34)).alloc (.cells #[.int .i64 sz, .int .i64 st, .slice a2 len c2] 34)) w.heap.size 34 #[.int .i64 sz, .int .i64 st, .slice a1 len c1] := (Bx.new _ _ _).alloc _
  have z2 : Bx ((w.alloc (.cells #[.int .i64 sz, .int .i64 st, .slice a1 len c1] 34)).alloc (.cells #[.int .i64 sz, .int .i64 st, .slice a2 len c2] 34)) (w.heap.size + 1) 34 #[.int .i64 sz, .int .i64 st, .slice a2 len c2] := by
    have := Bx.new (w.alloc (.cells #[.int .i64 sz, .int .i64 st, .slice a1 len c1] 34)) 34 #[.int .i64 sz, .int .i64 st, .slice a2 len c2]
    simpa using this
  obtain ⟨z10, z11, z12⟩ := z1.w3
  obtain ⟨z20, z21, z22⟩ := z2.w3
  generalize hW : (w.alloc (.cells #[.int .i64 sz, .int .i64 st, .slice a1 len c1] 34)).alloc (.cells #[.int .i64 sz, .int .i64 st, .slice a2 len c2] 34) = W at *
  go_enter Try.func32, Try.ntmps32
  go_wp2_with (go_at_call 15; refine hE.mono ?_; rintro e w1 ⟨rfl, n, hw1⟩; have HW : Hid (Below w.heap.size w w1) := (by rw [Hid, hw1]; exact belowN hB); clear hw1)
  go_ret
  exact ⟨rfl, HW.out⟩
end Go.Proofs.Ytkompamocpnefaa

/-
  The law FnWindows FROM what the program's functions of windows answer.
-/
namespace Go.Proofs.Ytkompamocpnefaa
set_option linter.unusedVariables false
set_option linter.unusedSimpArgs false
open Go.RowKit Go.Sort

/-- What the law holds of the program's Sent, with its answer in letters. -/
theorem sentV {F : FuncId} {v : Value} {w : World} {sz st : Int} {xs : List Int} (h : Calls Try.prog F #[v] w fun e w' => AnsW w w' e (sentL sz st xs)) (Rz Rt : Int) (Z : List Int) (ok : Bool) (hR : sentL sz st xs = ⟨Rz, Rt, Z, ok⟩) :
    Calls Try.prog F #[v] w fun e w' => ∃ a c, e = .returned (.tuple #[.agg #[.int .i64 Rz, .int .i64 Rt, .slice a Z.length c], .bool ok]) ∧ Vec w' a Z.length Z ∧ (Z.length ≤ c ∧ c ≤ maxLen) ∧ Below w.heap.size w w' := by
  have hf := (sentL_fits sz st xs).1
  refine h.mono ?_
  rintro e w' ⟨a, c, rfl, h1, h2⟩
  rw [hR] at h1 hf ⊢
  exact ⟨a, c, rfl, h1.slc.vec hf, h1.slc.le, h2⟩
theorem ackV {F : FuncId} {v1 v2 v3 : Value} {w : World} {sz st : Int} {xs : List Int} {who n : Int} (h : Calls Try.prog F #[v1, v2, v3] w fun e w' => AnsW w w' e (ackL sz st xs who n)) (Rz Rt : Int) (Z : List Int) (ok : Bool) (hR : ackL sz st xs who n = ⟨Rz, Rt, Z, ok⟩) :
    Calls Try.prog F #[v1, v2, v3] w fun e w' => ∃ a c, e = .returned (.tuple #[.agg #[.int .i64 Rz, .int .i64 Rt, .slice a Z.length c], .bool ok]) ∧ Vec w' a Z.length Z ∧ (Z.length ≤ c ∧ c ≤ maxLen) ∧ Below w.heap.size w w' := by
  have hf := (ackL_fits' sz st xs who n).1
  refine h.mono ?_
  rintro e w' ⟨a, c, rfl, h1, h2⟩
  rw [hR] at h1 hf ⊢
  exact ⟨a, c, rfl, h1.slc.vec hf, h1.slc.le, h2⟩

set_option maxRecDepth 100000 in
set_option maxHeartbeats 6400000 in
/-- The law FnWindows. -/
theorem lawFnWindows (hWok : ImplWindowOk) (hOpn : ImplOpen) (hSnt : ImplSent) (hAck : ImplAcked) (a : Option Addr) (len cap : Nat) (bs : Nat → Int) (w : World) (hv : BVec w a len bs) :
    Calls Try.prog 4 #[.slice a len cap] w fun e w' => e = .returned (.bool true) ∧ Below w.heap.size w w' := by
  by_cases hbig : (4096 : Int) < (len : Int)
  · have hB := big_any a len cap w
    rw [decide_eq_true hbig] at hB
    go_enter Try.func4, Try.ntmps4
    go_wp2_with fail
    refine hB.mono ?_
    rintro e w1 ⟨rfl, hw1⟩
    have HW : Hid (w1 = w) := hw1
    clear hw1
    go_wp2
    go_ret
    exact ⟨rfl, by rw [HW.out]; exact Below.refl _ _⟩
  · have hB := big_any a len cap w
    rw [decide_eq_false hbig] at hB
    have hl : len ≤ 4096 := by omega
    go_enter Try.func4, Try.ntmps4
    go_wp2_with fail
    refine hB.mono ?_
    rintro e w0 ⟨rfl, hw0⟩
    have B0 : Below w.heap.size w w0 := by rw [hw0]; exact Below.refl _ _
    clear hw0 hB
    go_wp2_with fail
    refine (drawSent_any a len cap bs w0 (hv.below B0 (Nat.le_refl _)) hl).mono ?_
    rintro e w1 ⟨sz, st, a1, c1, xs, rfl, hW1, hb1⟩
    have B1 : Below w.heap.size w w1 := B0.trans (hb1.mono B0.size)
    have hbd1 := hW1.bd
    have X3 : Wx (w1.alloc (.cells #[.int .i64 sz, .int .i64 st, .slice a1 xs.length c1] 34)) w1.heap.size sz st a1 c1 xs := Wx.new hW1.vec hW1.cp
    have B2 : Below w.heap.size w (w1.alloc (.cells #[.int .i64 sz, .int .i64 st, .slice a1 xs.length c1] 34)) := B1.alloc B1.size _
    generalize hW2 : w1.alloc (.cells #[.int .i64 sz, .int .i64 st, .slice a1 xs.length c1] 34) = W2 at *
    have hIsz : I64w sz := ⟨by omega, by omega⟩
    have hIst : I64w st := ⟨by omega, by omega⟩
    obtain ⟨Rz, Rt, Z, ok, hR⟩ : ∃ Rz Rt Z ok, sentL sz st xs = ⟨Rz, Rt, Z, ok⟩ := ⟨_, _, _, _, rfl⟩
    have HRno : Hid (wokB sz st xs = false → ok = false ∧ Rz = 0 ∧ Rt = 0 ∧ Z = []) := fun h => by
      rw [sentL_no h] at hR
      injection hR with h1 h2 h3 h4
      exact ⟨h4.symm, h1.symm, h2.symm, h3.symm⟩
    have HRok : Hid (wokB sz st xs = true → (ok = opnB sz st xs ∧ wokB Rz Rt Z = true) ∧ (ok = false → Rz = sz ∧ Rt = st ∧ Z = xs) ∧ (ok = true → Rt = st + 1 ∧ Rt - leastB Z ≤ Rz ∧ 0 ≤ st ∧ st < 1000000)) := fun h => by
      have h1 := sent_right h
      have h2 := sent_full h
      have h3 := sent_more h
      rw [hR] at h1 h2 h3
      exact ⟨h1, h2, h3⟩
    have HRI : Hid (I64w Rz ∧ I64w Rt) := by
      have h1 : ok = true → _ := fun h => sentL_bd (sz := sz) (st := st) (xs := xs) (by rw [hR]; exact h)
      cases hb : wokB sz st xs with
      | false => obtain ⟨_, e1, e2, _⟩ := HRno.out hb; rw [e1, e2]; exact ⟨⟨by omega, by omega⟩, by omega, by omega⟩
      | true =>
        cases hk : ok with
        | false => obtain ⟨e1, e2, _⟩ := (HRok.out hb).2.1 hk; rw [e1, e2]; exact ⟨hIsz, hIst⟩
        | true =>
          have h2 := h1 hk
          rw [hR] at h2
          dsimp only at h2
          exact ⟨⟨by omega, by omega⟩, by omega, by omega⟩
    have hSi : ∀ X, Wx X w1.heap.size sz st a1 c1 xs → _ := fun X h => sentV (hSnt sz st a1 xs.length c1 xs X hIsz hIst h.vec h.cp.1 h.cp.2) Rz Rt Z ok hR
    have hSs : ∀ X, Wx X w1.heap.size sz st a1 c1 xs → _ := fun X h => sentV (sentS_any sz st a1 xs.length c1 xs X h.vec (Nat.le_trans h.cp.1 h.cp.2)) Rz Rt Z ok hR
    have hOi : ∀ X, Wx X w1.heap.size sz st a1 c1 xs → _ := fun X h => hOpn sz st a1 xs.length c1 xs X hIsz hIst h.vec h.cp.1 h.cp.2
    have hKi : ∀ X, Wx X w1.heap.size sz st a1 c1 xs → _ := fun X h => hWok sz st a1 xs.length c1 xs X hIsz hIst h.vec h.cp.1 h.cp.2
    have hOs : ∀ X, Wx X w1.heap.size sz st a1 c1 xs → Calls Try.prog 36 #[wiV sz st a1 xs.length c1] X fun e w' => e = .returned (.bool (opnB sz st xs)) ∧ Below X.heap.size X w' := fun X h => (opnS_any sz st a1 xs.length c1 xs X h.vec (Nat.le_trans h.cp.1 h.cp.2)).mono (fun e w' h => ⟨h.1, h.2.1⟩)
    have hKs : ∀ X, Wx X w1.heap.size sz st a1 c1 xs → Calls Try.prog 34 #[wiV sz st a1 xs.length c1] X fun e w' => e = .returned (.bool (wokB sz st xs)) ∧ Below X.heap.size X w' := fun X h => (winS_any sz st a1 xs.length c1 xs X h.vec (Nat.le_trans h.cp.1 h.cp.2)).mono (fun e w' h => ⟨h.1, h.2.1⟩)
    clear hR hSnt hOpn hb1 hW1
    unfold wiV at *
    obtain ⟨p0, p1, p2⟩ := X3.box.w3
    go_wp2_with fail
    refine (hSi W2 X3).mono ?_
    rintro e w3 ⟨ax, cx, rfl, hVx, hcx, hb3⟩
    have B3 : Below w.heap.size w w3 := B2.trans (hb3.mono B2.size)
    replace X3 := X3.below hb3
    have A4 : Wx (w3.alloc (.cells #[.int .i64 Rz, .int .i64 Rt, .slice ax Z.length cx] 34)) w3.heap.size Rz Rt ax cx Z := Wx.new hVx hcx
    have hb4 := one_alloc w3 (.cells #[.int .i64 Rz, .int .i64 Rt, .slice ax Z.length cx] 34)
    replace X3 := X3.below hb4
    have B4 : Below w.heap.size w (w3.alloc (.cells #[.int .i64 Rz, .int .i64 Rt, .slice ax Z.length cx] 34)) := B3.alloc B3.size _
    generalize hW4 : w3.alloc (.cells #[.int .i64 Rz, .int .i64 Rt, .slice ax Z.length cx] 34) = W4 at *
    clear hb4
    clear p0 p1 p2 hb3 hVx hcx
    go_wp2_with fail
    refine (drawAcked_any a len cap bs W4 (hv.below B4 (Nat.le_refl _)) hl).mono ?_
    rintro e w5 ⟨sa, ta, aa, ca, ys, who, n, rfl, hW5, hwho, hn, hb5⟩
    have B5 : Below w.heap.size w w5 := B4.trans (hb5.mono B4.size)
    have hbd5 := hW5.bd
    replace X3 := X3.below hb5
    replace A4 := A4.below hb5
    have A6 : Wx (w5.alloc (.cells #[.int .i64 sa, .int .i64 ta, .slice aa ys.length ca] 34)) w5.heap.size sa ta aa ca ys := Wx.new hW5.vec hW5.cp
    have hb6 := one_alloc w5 (.cells #[.int .i64 sa, .int .i64 ta, .slice aa ys.length ca] 34)
    replace X3 := X3.below hb6
    replace A4 := A4.below hb6
    have B6 : Below w.heap.size w (w5.alloc (.cells #[.int .i64 sa, .int .i64 ta, .slice aa ys.length ca] 34)) := B5.alloc B5.size _
    generalize hW6 : w5.alloc (.cells #[.int .i64 sa, .int .i64 ta, .slice aa ys.length ca] 34) = W6 at *
    clear hb6
    have hIsa : I64w sa := ⟨by omega, by omega⟩
    have hIta : I64w ta := ⟨by omega, by omega⟩
    have hIwho : I64w who := ⟨by omega, by omega⟩
    have hIn : I64w n := ⟨by omega, by omega⟩
    obtain ⟨Qz, Qt, Y, ko, hQ⟩ : ∃ Qz Qt Y ko, ackL sa ta ys who n = ⟨Qz, Qt, Y, ko⟩ := ⟨_, _, _, _, rfl⟩
    have HQ : Hid (ko = true → wokB Qz Qt Y = true ∧ (0 ≤ who ∧ who.toNat < Y.length) ∧ el Y who.toNat = n ∧ Qt = ta ∧ n ≤ ta) := fun h => by
      have h1 := ack_right (sz := sa) (st := ta) (xs := ys) (who := who) (n := n) (by rw [hQ]; exact h)
      rw [hQ] at h1
      exact h1
    have HQI : Hid (ko = true → I64w Qz ∧ I64w Qt) := fun h => by
      have h2 := ackL_bd (sz := sa) (st := ta) (xs := ys) (who := who) (n := n) (by rw [hQ]; exact h)
      rw [hQ] at h2
      dsimp only at h2
      exact ⟨⟨by omega, by omega⟩, by omega, by omega⟩
    have hAi : ∀ X, Wx X w5.heap.size sa ta aa ca ys → _ := fun X h => ackV (hAck sa ta aa ys.length ca ys who n X hIsa hIta hIwho hIn h.vec h.cp.1 h.cp.2) Qz Qt Y ko hQ
    have hAs : ∀ X, Wx X w5.heap.size sa ta aa ca ys → _ := fun X h => ackV (ackS_any sa ta aa ys.length ca ys who n X h.vec (Nat.le_trans h.cp.1 h.cp.2)) Qz Qt Y ko hQ
    clear hQ hAck hb5 hW5
    unfold wiV at *
    obtain ⟨p0, p1, p2⟩ := A6.box.w3
    go_wp2_with fail
    refine (hAi W6 A6).mono ?_
    rintro e w7 ⟨ay, cy, rfl, hVy, hcy, hb7⟩
    have B7 : Below w.heap.size w w7 := B6.trans (hb7.mono B6.size)
    replace X3 := X3.below hb7
    replace A4 := A4.below hb7
    replace A6 := A6.below hb7
    have A8 : Wx (w7.alloc (.cells #[.int .i64 Qz, .int .i64 Qt, .slice ay Y.length cy] 34)) w7.heap.size Qz Qt ay cy Y := Wx.new hVy hcy
    have hb8 := one_alloc w7 (.cells #[.int .i64 Qz, .int .i64 Qt, .slice ay Y.length cy] 34)
    replace X3 := X3.below hb8
    replace A4 := A4.below hb8
    replace A6 := A6.below hb8
    have B8 : Below w.heap.size w (w7.alloc (.cells #[.int .i64 Qz, .int .i64 Qt, .slice ay Y.length cy] 34)) := B7.alloc B7.size _
    generalize hW8 : w7.alloc (.cells #[.int .i64 Qz, .int .i64 Qt, .slice ay Y.length cy] 34) = W8 at *
    clear hb8
    clear p0 p1 p2 hb7 hVy hcy
    obtain ⟨p0, p1, p2⟩ := X3.box.w3
    go_wp2_with fail
    refine (hSs W8 X3).mono ?_
    rintro e w9 ⟨az, cz, rfl, hVz, hcz, hb9⟩
    have B9 : Below w.heap.size w w9 := B8.trans (hb9.mono B8.size)
    replace X3 := X3.below hb9
    replace A4 := A4.below hb9
    replace A6 := A6.below hb9
    replace A8 := A8.below hb9
    have A10 : Wx (w9.alloc (.cells #[.int .i64 Rz, .int .i64 Rt, .slice az Z.length cz] 34)) w9.heap.size Rz Rt az cz Z := Wx.new hVz hcz
    have hb10 := one_alloc w9 (.cells #[.int .i64 Rz, .int .i64 Rt, .slice az Z.length cz] 34)
    replace X3 := X3.below hb10
    replace A4 := A4.below hb10
    replace A6 := A6.below hb10
    replace A8 := A8.below hb10
    have B10 : Below w.heap.size w (w9.alloc (.cells #[.int .i64 Rz, .int .i64 Rt, .slice az Z.length cz] 34)) := B9.alloc B9.size _
    generalize hW10 : w9.alloc (.cells #[.int .i64 Rz, .int .i64 Rt, .slice az Z.length cz] 34) = W10 at *
    clear hb10
    clear p0 p1 p2 hb9 hVz hcz hSs hSi
    have hok : (ok != ok) = false := by cases ok <;> rfl
    have K3 : ∀ q : Bk W10, Wx q.w w1.heap.size sz st a1 c1 xs := fun q => X3.below q.h
    have K4 : ∀ q : Bk W10, Wx q.w w3.heap.size Rz Rt ax cx Z := fun q => A4.below q.h
    have K10 : ∀ q : Bk W10, Wx q.w w9.heap.size Rz Rt az cz Z := fun q => A10.below q.h
    have j1 : Hid (∀ q : Bk W10, Calls Try.prog 32 #[.agg #[.int .i64 Rz, .int .i64 Rt, .slice ax Z.length cx], .agg #[.int .i64 Rz, .int .i64 Rt, .slice az Z.length cz]] q.w fun e w' => e = .returned (.bool true) ∧ Below q.w.heap.size q.w w') := fun q => likeW_any Rz Rt ax az Z.length cx cz Z q.w (K4 q).vec (K10 q).vec (Nat.le_trans (K4 q).cp.1 (K4 q).cp.2)
    have j2 : Hid (∀ q : Bk W10, _) := fun q => hKi q.w (K3 q)
    have j3 : Hid (∀ q : Bk W10, _) := fun q => hKs q.w (K3 q)
    have j4 : Hid (∀ q : Bk W10, _) := fun q => hOi q.w (K3 q)
    have j5 : Hid (∀ q : Bk W10, _) := fun q => hOs q.w (K3 q)
    have e30 : ∀ q : Bk W10, q.w.cell? ⟨w1.heap.size, 0, none⟩ = some (.int .i64 sz) := fun q => (K3 q).box.w3.1
    have e31 : ∀ q : Bk W10, q.w.cell? ⟨w1.heap.size, 1, none⟩ = some (.int .i64 st) := fun q => (K3 q).box.w3.2.1
    have e32 : ∀ q : Bk W10, q.w.cell? ⟨w1.heap.size, 2, none⟩ = some (.slice a1 xs.length c1) := fun q => (K3 q).box.w3.2.2
    have e40 : ∀ q : Bk W10, q.w.cell? ⟨w3.heap.size, 0, none⟩ = some (.int .i64 Rz) := fun q => (K4 q).box.w3.1
    have e41 : ∀ q : Bk W10, q.w.cell? ⟨w3.heap.size, 1, none⟩ = some (.int .i64 Rt) := fun q => (K4 q).box.w3.2.1
    have e42 : ∀ q : Bk W10, q.w.cell? ⟨w3.heap.size, 2, none⟩ = some (.slice ax Z.length cx) := fun q => (K4 q).box.w3.2.2
    have e50 : ∀ q : Bk W10, q.w.cell? ⟨w9.heap.size, 0, none⟩ = some (.int .i64 Rz) := fun q => (K10 q).box.w3.1
    have e51 : ∀ q : Bk W10, q.w.cell? ⟨w9.heap.size, 1, none⟩ = some (.int .i64 Rt) := fun q => (K10 q).box.w3.2.1
    have e52 : ∀ q : Bk W10, q.w.cell? ⟨w9.heap.size, 2, none⟩ = some (.slice az Z.length cz) := fun q => (K10 q).box.w3.2.2
    have nw : (wokB sz st xs != wokB sz st xs) = false := by simp
    have no : (opnB sz st xs != opnB sz st xs) = false := by simp
    haveI : Inhabited (Bk W10) := ⟨⟨W10, Below.refl _ _⟩⟩
    clear K3 K4 K10
    go_wp2_with fail
    refine wp_region_bk (by kernel_rfl) (by kernel_rfl) ?_
    repeat (go_big_quiet_step ((first | (go_at_call 32; exact bk_call _ (j1.out _)) | (go_at_call 33; exact bk_call _ (j2.out _)) | (go_at_call 34; exact bk_call _ (j3.out _)) | (go_at_call 35; exact bk_call _ (j4.out _)) | (go_at_call 36; exact bk_call _ (j5.out _)))))
    refine wpQuiet_nil ?_
    intro wE hw'
    obtain ⟨⟨w11, hb11⟩, hw''⟩ := hw'
    have hwe : wE = w11 := hw''
    clear hw''
    subst hwe
    clear j1 j2 j3 j4 j5 e30 e31 e32 e40 e41 e42 e50 e51 e52 A10
    have B11 : Below w.heap.size w wE := B10.trans (hb11.mono B10.size)
    replace X3 := X3.below hb11
    replace A4 := A4.below hb11
    replace A6 := A6.below hb11
    replace A8 := A8.below hb11
    obtain ⟨p0, p1, p2⟩ := A6.box.w3
    go_wp2_with fail
    refine (hAs wE A6).mono ?_
    rintro e w12 ⟨aq, cq, rfl, hVq, hcq, hb12⟩
    have B12 : Below w.heap.size w w12 := B11.trans (hb12.mono B11.size)
    replace X3 := X3.below hb12
    replace A4 := A4.below hb12
    replace A6 := A6.below hb12
    replace A8 := A8.below hb12
    have A13 : Wx (w12.alloc (.cells #[.int .i64 Qz, .int .i64 Qt, .slice aq Y.length cq] 34)) w12.heap.size Qz Qt aq cq Y := Wx.new hVq hcq
    have hb13 := one_alloc w12 (.cells #[.int .i64 Qz, .int .i64 Qt, .slice aq Y.length cq] 34)
    replace X3 := X3.below hb13
    replace A4 := A4.below hb13
    replace A6 := A6.below hb13
    replace A8 := A8.below hb13
    have B13 : Below w.heap.size w (w12.alloc (.cells #[.int .i64 Qz, .int .i64 Qt, .slice aq Y.length cq] 34)) := B12.alloc B12.size _
    generalize hW13 : w12.alloc (.cells #[.int .i64 Qz, .int .i64 Qt, .slice aq Y.length cq] 34) = W13 at *
    clear hb13
    clear p0 p1 p2 hb12 hVq hcq hAs hAi
    have hko : (ko != ko) = false := by cases ko <;> rfl
    obtain ⟨p0, p1, p2⟩ := A8.box.w3
    obtain ⟨u0, u1, u2⟩ := A13.box.w3
    go_wp2_with fail
    refine (likeW_any Qz Qt ay aq Y.length cy cq Y W13 A8.vec A13.vec (Nat.le_trans A8.cp.1 A8.cp.2)).mono ?_
    rintro e w14 ⟨rfl, hb14⟩
    have B14 : Below w.heap.size w w14 := B13.trans (hb14.mono B13.size)
    replace X3 := X3.below hb14
    replace A4 := A4.below hb14
    replace A6 := A6.below hb14
    replace A8 := A8.below hb14
    clear p0 p1 p2 u0 u1 u2 A13 hb14
    obtain ⟨p0, p1, p2⟩ := X3.box.w3
    have hK14 := hKs w14 X3
    cases hb : wokB sz st xs with
    | false =>
      rw [hb] at hK14
      obtain ⟨rfl, rfl, rfl, rfl⟩ := HRno.out hb
      go_wp2_with fail
      refine hK14.mono ?_
      rintro e w15 ⟨rfl, hb15⟩
      have B15 : Below w.heap.size w w15 := B14.trans (hb15.mono B14.size)
      replace A4 := A4.below hb15
      clear p0 p1 p2
      obtain ⟨u0, u1, u2⟩ := A4.box.w3
      have hL := likeW_any 0 0 ax none 0 cx 0 [] w15 A4.vec ⟨rfl, fun x hx => absurd hx (List.not_mem_nil), .inl rfl⟩ (Nat.zero_le _)
      go_wp2_with (go_at_call 32; refine hL.mono ?_; rintro e w16 ⟨rfl, hb16⟩)
      go_ret
      exact ⟨rfl, B15.trans (hb16.mono B15.size)⟩
    | true =>
      rw [hb] at hK14
      obtain ⟨⟨hop0, hwR0⟩, hfull0, hmore0⟩ := HRok.out hb
      have hop : Hid (ok = opnB sz st xs) := hop0
      have hwR : Hid (wokB Rz Rt Z = true) := hwR0
      have hfull : Hid (ok = false → Rz = sz ∧ Rt = st ∧ Z = xs) := hfull0
      have hmore : Hid (ok = true → Rt = st + 1 ∧ Rt - leastB Z ≤ Rz ∧ 0 ≤ st ∧ st < 1000000) := hmore0
      clear hop0 hwR0 hfull0 hmore0
      go_wp2_with fail
      refine hK14.mono ?_
      rintro e w15 ⟨rfl, hb15⟩
      have B15 : Below w.heap.size w w15 := B14.trans (hb15.mono B14.size)
      replace X3 := X3.below hb15
      replace A4 := A4.below hb15
      replace A6 := A6.below hb15
      replace A8 := A8.below hb15
      clear p0 p1 p2 hK14 hb15
      cases ko
      · skip
        have K3 : ∀ q : Bk w15, Wx q.w w1.heap.size sz st a1 c1 xs := fun q => X3.below q.h
        have K4 : ∀ q : Bk w15, Wx q.w w3.heap.size Rz Rt ax cx Z := fun q => A4.below q.h
        have j4 : Hid (∀ q : Bk w15, Calls Try.prog 35 #[.agg #[.int .i64 sz, .int .i64 st, .slice a1 xs.length c1]] q.w fun e w' => e = .returned (.bool ok) ∧ Below q.w.heap.size q.w w') := fun q => by rw [hop.out]; exact hOi q.w (K3 q)
        have j2 : Hid (∀ q : Bk w15, Calls Try.prog 33 #[.agg #[.int .i64 Rz, .int .i64 Rt, .slice ax Z.length cx]] q.w fun e w' => e = .returned (.bool true) ∧ Below q.w.heap.size q.w w') := fun q => by rw [← hwR.out]; exact hWok Rz Rt ax Z.length cx Z q.w HRI.out.1 HRI.out.2 (K4 q).vec (K4 q).cp.1 (K4 q).cp.2
        haveI : Inhabited (Bk w15) := ⟨⟨w15, Below.refl _ _⟩⟩
        clear hop hwR
        cases ok
        · obtain ⟨rfl, rfl, rfl⟩ := hfull.out rfl
          have j1 : Hid (∀ q : Bk w15, Calls Try.prog 32 #[.agg #[.int .i64 Rz, .int .i64 Rt, .slice ax Z.length cx], .agg #[.int .i64 Rz, .int .i64 Rt, .slice a1 Z.length c1]] q.w fun e w' => e = .returned (.bool true) ∧ Below q.w.heap.size q.w w') := fun q => likeW_any Rz Rt ax a1 Z.length cx c1 Z q.w (K4 q).vec (K3 q).vec (Nat.le_trans (K4 q).cp.1 (K4 q).cp.2)
          have e30 : ∀ q : Bk w15, q.w.cell? ⟨w1.heap.size, 0, none⟩ = some (.int .i64 Rz) := fun q => (K3 q).box.w3.1
          have e31 : ∀ q : Bk w15, q.w.cell? ⟨w1.heap.size, 1, none⟩ = some (.int .i64 Rt) := fun q => (K3 q).box.w3.2.1
          have e32 : ∀ q : Bk w15, q.w.cell? ⟨w1.heap.size, 2, none⟩ = some (.slice a1 Z.length c1) := fun q => (K3 q).box.w3.2.2
          have e40 : ∀ q : Bk w15, q.w.cell? ⟨w3.heap.size, 0, none⟩ = some (.int .i64 Rz) := fun q => (K4 q).box.w3.1
          have e41 : ∀ q : Bk w15, q.w.cell? ⟨w3.heap.size, 1, none⟩ = some (.int .i64 Rt) := fun q => (K4 q).box.w3.2.1
          have e42 : ∀ q : Bk w15, q.w.cell? ⟨w3.heap.size, 2, none⟩ = some (.slice ax Z.length cx) := fun q => (K4 q).box.w3.2.2
          have bb : (false == false) = true := rfl
          clear K3 K4 hmore hfull
          go_wp2_with fail
          refine wp_region_bk (by kernel_rfl) (by kernel_rfl) ?_
          repeat (go_big_quiet_step ((first | (go_at_call 35; exact bk_call _ (j4.out _)) | (go_at_call 33; exact bk_call _ (j2.out _)) | (go_at_call 32; exact bk_call _ (j1.out _)))))
          refine wpQuiet_nil ?_
          intro wE2 hw'
          obtain ⟨⟨w18, hb18⟩, hw''⟩ := hw'
          have hwe : wE2 = w18 := hw''
          clear hw''
          subst hwe
          have HB : Hid (Below w.heap.size w wE2) := B15.trans (hb18.mono B15.size)
          go_wp2
          go_ret
          exact ⟨rfl, HB.out⟩
        · obtain ⟨hrt, hle, hs0, hs1⟩ := hmore.out rfl
          have hrt2 : (Rt == st + 1) = true := by simpa using hrt
          have hlb := leastB_bd Z
          have j6 : Hid (∀ q : Bk w15, Calls Try.prog 23 #[.slice ax Z.length cx] q.w fun e w' => e = .returned (.int .i64 (leastB Z)) ∧ Below q.w.heap.size q.w w') := fun q => (specLeast_any ax Z.length cx Z q.w (K4 q).vec (Nat.le_trans (K4 q).cp.1 (K4 q).cp.2)).mono (fun e w' h => ⟨h.1, by rw [h.2]; exact Below.refl _ _⟩)
          have e30 : ∀ q : Bk w15, q.w.cell? ⟨w1.heap.size, 0, none⟩ = some (.int .i64 sz) := fun q => (K3 q).box.w3.1
          have e31 : ∀ q : Bk w15, q.w.cell? ⟨w1.heap.size, 1, none⟩ = some (.int .i64 st) := fun q => (K3 q).box.w3.2.1
          have e32 : ∀ q : Bk w15, q.w.cell? ⟨w1.heap.size, 2, none⟩ = some (.slice a1 xs.length c1) := fun q => (K3 q).box.w3.2.2
          have e40 : ∀ q : Bk w15, q.w.cell? ⟨w3.heap.size, 0, none⟩ = some (.int .i64 Rz) := fun q => (K4 q).box.w3.1
          have e41 : ∀ q : Bk w15, q.w.cell? ⟨w3.heap.size, 1, none⟩ = some (.int .i64 Rt) := fun q => (K4 q).box.w3.2.1
          have e42 : ∀ q : Bk w15, q.w.cell? ⟨w3.heap.size, 2, none⟩ = some (.slice ax Z.length cx) := fun q => (K4 q).box.w3.2.2
          generalize leastB Z = L at *
          have hle2 : decide (Rt - L ≤ Rz) = true := by simpa using hle
          have hRt0 : 0 ≤ Rt ∧ Rt ≤ 1000000 := by omega
          have bb : (true == true) = true := rfl
          clear K3 K4 hmore hfull hrt hle
          go_wp2_with fail
          refine wp_region_bk (by kernel_rfl) (by kernel_rfl) ?_
          repeat (go_big_quiet_step ((first | (go_at_call 35; exact bk_call _ (j4.out _)) | (go_at_call 33; exact bk_call _ (j2.out _)) | (go_at_call 23; exact bk_call _ (j6.out _)))))
          refine wpQuiet_nil ?_
          intro wE2 hw'
          obtain ⟨⟨w18, hb18⟩, hw''⟩ := hw'
          have hwe : wE2 = w18 := hw''
          clear hw''
          subst hwe
          have HB : Hid (Below w.heap.size w wE2) := B15.trans (hb18.mono B15.size)
          go_wp2
          go_ret
          exact ⟨rfl, HB.out⟩
      · obtain ⟨hwY, ⟨hw0, hw1⟩, hyn, hqt, hnt⟩ := HQ.out rfl
        obtain ⟨hIq, hIq2⟩ := HQI.out rfl
        have hKy := hWok Qz Qt ay Y.length cy Y w15 hIq hIq2 A8.vec A8.cp.1 A8.cp.2
        rw [hwY] at hKy
        unfold wiV at hKy
        obtain ⟨k, rfl⟩ : ∃ k : Nat, who = (k : Int) := ⟨who.toNat, by omega⟩
        have hkl : k < Y.length := by omega
        have k1 : (k : Int) < (Y.length : Int) := by omega
        have k0 : (0 : Int) ≤ (k : Int) := by omega
        have hyn' : el Y k = n := by simpa using hyn
        obtain ⟨b, off, rfl, hcy⟩ := A8.vec.cells (by omega)
        have hck := hcy k hkl
        rw [hyn'] at hck
        have nn : (n != n) = false := by simp
        have nq : (Qt != ta) = false := by simp [hqt]
        have nd : decide (ta < n) = false := by simp; omega
        obtain ⟨p0, p1, p2⟩ := A8.box.w3
        obtain ⟨u0, u1, u2⟩ := A6.box.w3
        clear hyn hyn' hcy hqt hnt hw1 hwY
        have HA8 := A8
        have HA6 := A6
        go_wp2_with (go_at_call 33; refine hKy.mono ?_; rintro e w16 ⟨rfl, hb16⟩; replace HA8 := HA8.below hb16; replace HA6 := HA6.below hb16; obtain ⟨p0', p1', p2'⟩ := HA8.box.w3; obtain ⟨u0', u1', u2'⟩ := HA6.box.w3; replace hck := (hb16.cell (World.block_lt_of_cell? _ _ hck)).trans hck)
        have B16 : Below w.heap.size w w16 := B15.trans (hb16.mono B15.size)
        replace X3 := X3.below hb16
        replace A4 := A4.below hb16
        clear p0 p1 p2 u0 u1 u2 p0' p1' p2' u0' u1' u2' hck HA8 HA6 A8 A6 hKy nn nq nd hb16
        have K3 : ∀ q : Bk w16, Wx q.w w1.heap.size sz st a1 c1 xs := fun q => X3.below q.h
        have K4 : ∀ q : Bk w16, Wx q.w w3.heap.size Rz Rt ax cx Z := fun q => A4.below q.h
        have j4 : Hid (∀ q : Bk w16, Calls Try.prog 35 #[.agg #[.int .i64 sz, .int .i64 st, .slice a1 xs.length c1]] q.w fun e w' => e = .returned (.bool ok) ∧ Below q.w.heap.size q.w w') := fun q => by rw [hop.out]; exact hOi q.w (K3 q)
        have j2 : Hid (∀ q : Bk w16, Calls Try.prog 33 #[.agg #[.int .i64 Rz, .int .i64 Rt, .slice ax Z.length cx]] q.w fun e w' => e = .returned (.bool true) ∧ Below q.w.heap.size q.w w') := fun q => by rw [← hwR.out]; exact hWok Rz Rt ax Z.length cx Z q.w HRI.out.1 HRI.out.2 (K4 q).vec (K4 q).cp.1 (K4 q).cp.2
        haveI : Inhabited (Bk w16) := ⟨⟨w16, Below.refl _ _⟩⟩
        clear hop hwR
        cases ok
        · obtain ⟨rfl, rfl, rfl⟩ := hfull.out rfl
          have j1 : Hid (∀ q : Bk w16, Calls Try.prog 32 #[.agg #[.int .i64 Rz, .int .i64 Rt, .slice ax Z.length cx], .agg #[.int .i64 Rz, .int .i64 Rt, .slice a1 Z.length c1]] q.w fun e w' => e = .returned (.bool true) ∧ Below q.w.heap.size q.w w') := fun q => likeW_any Rz Rt ax a1 Z.length cx c1 Z q.w (K4 q).vec (K3 q).vec (Nat.le_trans (K4 q).cp.1 (K4 q).cp.2)
          have e30 : ∀ q : Bk w16, q.w.cell? ⟨w1.heap.size, 0, none⟩ = some (.int .i64 Rz) := fun q => (K3 q).box.w3.1
          have e31 : ∀ q : Bk w16, q.w.cell? ⟨w1.heap.size, 1, none⟩ = some (.int .i64 Rt) := fun q => (K3 q).box.w3.2.1
          have e32 : ∀ q : Bk w16, q.w.cell? ⟨w1.heap.size, 2, none⟩ = some (.slice a1 Z.length c1) := fun q => (K3 q).box.w3.2.2
          have e40 : ∀ q : Bk w16, q.w.cell? ⟨w3.heap.size, 0, none⟩ = some (.int .i64 Rz) := fun q => (K4 q).box.w3.1
          have e41 : ∀ q : Bk w16, q.w.cell? ⟨w3.heap.size, 1, none⟩ = some (.int .i64 Rt) := fun q => (K4 q).box.w3.2.1
          have e42 : ∀ q : Bk w16, q.w.cell? ⟨w3.heap.size, 2, none⟩ = some (.slice ax Z.length cx) := fun q => (K4 q).box.w3.2.2
          have bb : (false == false) = true := rfl
          clear K3 K4 hmore hfull
          go_wp2_with fail
          refine wp_region_bk (by kernel_rfl) (by kernel_rfl) ?_
          repeat (go_big_quiet_step ((first | (go_at_call 35; exact bk_call _ (j4.out _)) | (go_at_call 33; exact bk_call _ (j2.out _)) | (go_at_call 32; exact bk_call _ (j1.out _)))))
          refine wpQuiet_nil ?_
          intro wE2 hw'
          obtain ⟨⟨w18, hb18⟩, hw''⟩ := hw'
          have hwe : wE2 = w18 := hw''
          clear hw''
          subst hwe
          have HB : Hid (Below w.heap.size w wE2) := B16.trans (hb18.mono B16.size)
          go_wp2
          go_ret
          exact ⟨rfl, HB.out⟩
        · obtain ⟨hrt, hle, hs0, hs1⟩ := hmore.out rfl
          have hrt2 : (Rt == st + 1) = true := by simpa using hrt
          have hlb := leastB_bd Z
          have j6 : Hid (∀ q : Bk w16, Calls Try.prog 23 #[.slice ax Z.length cx] q.w fun e w' => e = .returned (.int .i64 (leastB Z)) ∧ Below q.w.heap.size q.w w') := fun q => (specLeast_any ax Z.length cx Z q.w (K4 q).vec (Nat.le_trans (K4 q).cp.1 (K4 q).cp.2)).mono (fun e w' h => ⟨h.1, by rw [h.2]; exact Below.refl _ _⟩)
          have e30 : ∀ q : Bk w16, q.w.cell? ⟨w1.heap.size, 0, none⟩ = some (.int .i64 sz) := fun q => (K3 q).box.w3.1
          have e31 : ∀ q : Bk w16, q.w.cell? ⟨w1.heap.size, 1, none⟩ = some (.int .i64 st) := fun q => (K3 q).box.w3.2.1
          have e32 : ∀ q : Bk w16, q.w.cell? ⟨w1.heap.size, 2, none⟩ = some (.slice a1 xs.length c1) := fun q => (K3 q).box.w3.2.2
          have e40 : ∀ q : Bk w16, q.w.cell? ⟨w3.heap.size, 0, none⟩ = some (.int .i64 Rz) := fun q => (K4 q).box.w3.1
          have e41 : ∀ q : Bk w16, q.w.cell? ⟨w3.heap.size, 1, none⟩ = some (.int .i64 Rt) := fun q => (K4 q).box.w3.2.1
          have e42 : ∀ q : Bk w16, q.w.cell? ⟨w3.heap.size, 2, none⟩ = some (.slice ax Z.length cx) := fun q => (K4 q).box.w3.2.2
          generalize leastB Z = L at *
          have hle2 : decide (Rt - L ≤ Rz) = true := by simpa using hle
          have hRt0 : 0 ≤ Rt ∧ Rt ≤ 1000000 := by omega
          have bb : (true == true) = true := rfl
          clear K3 K4 hmore hfull hrt hle
          go_wp2_with fail
          refine wp_region_bk (by kernel_rfl) (by kernel_rfl) ?_
          repeat (go_big_quiet_step ((first | (go_at_call 35; exact bk_call _ (j4.out _)) | (go_at_call 33; exact bk_call _ (j2.out _)) | (go_at_call 23; exact bk_call _ (j6.out _)))))
          refine wpQuiet_nil ?_
          intro wE2 hw'
          obtain ⟨⟨w18, hb18⟩, hw''⟩ := hw'
          have hwe : wE2 = w18 := hw''
          clear hw''
          subst hwe
          have HB : Hid (Below w.heap.size w wE2) := B16.trans (hb18.mono B16.size)
          go_wp2
          go_ret
          exact ⟨rfl, HB.out⟩
end Go.Proofs.Ytkompamocpnefaa
