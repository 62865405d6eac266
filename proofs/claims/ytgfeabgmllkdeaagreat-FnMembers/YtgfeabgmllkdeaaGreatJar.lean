/-
  Texts in one: Nmv Nmw Nnx.
-/
import Derived.Test.YtgfeabgmllkdeaaGreatJaq
import Derived.Test.YtgfeabgmllkdeaaGreatJap
import Derived.Test.YtgfeabgmllkdeaaGreatJag
/-
  The program's wedge.
-/
namespace Go.Proofs.YtgfeabgmllkdeaaGreat
set_option linter.unusedVariables false
set_option linter.unusedSimpArgs false
open Go.RowKit Go.Sort

theorem putL_self : ∀ {l : List Int} {x : Int}, l.Pairwise (· < ·) → x ∈ l → putL l x = l
  | y :: l, x, h, hx => by
    obtain ⟨h1, h2⟩ := List.pairwise_cons.1 h
    rw [putL]
    rcases List.mem_cons.1 hx with e | hx
    · rw [if_neg (by omega), if_pos e.symm]
    · rw [if_pos (h1 x hx), putL_self h2 hx]
/-- What is learnt of so many. -/
def wdR (i : Nat) (r : Rw) (S : List Int) (k : Nat) : Rw := { r with wed := true, sus := learnS i r.sus (S.take k) }
theorem wdR_sus {i nn : Nat} {r : Rw} {S : List Int} (hr : OkR r nn) (hS : ∀ x ∈ S, 0 ≤ x ∧ x < (nn : Int)) (k : Nat) : (wdR i r S k).sus.Pairwise (· < ·) ∧ (∀ x ∈ (wdR i r S k).sus, 0 ≤ x ∧ x < (nn : Int)) ∧ (wdR i r S k).sus.length ≤ 5 := by
  have h1 : (wdR i r S k).sus.Pairwise (· < ·) := learnS_ris (ris_iff.1 hr.ris)
  have h2 : ∀ x ∈ (wdR i r S k).sus, 0 ≤ x ∧ x < (nn : Int) := fun x hx => by
    rcases mem_learnS.1 hx with h | ⟨h, _⟩
    · exact hr.sus x h
    · exact hS x (List.mem_of_mem_take h)
  have h5 := hr.n5
  exact ⟨h1, h2, Nat.le_trans (ris_short (k := nn) h1 h2) h5.2⟩
theorem vec_block {X Y : World} {a : Option Addr} {S : List Int} (h : Vec X a S.length S) (hb : ∀ b o, a = some ⟨b, o, none⟩ → S ≠ [] → Y.heap[b]? = X.heap[b]?) : Vec Y a S.length S := by
  obtain ⟨h1, h2, h3⟩ := h
  refine ⟨h1, h2, ?_⟩
  rcases h3 with h3 | ⟨b, o, e, h3⟩
  · exact .inl h3
  · by_cases hn : S = []
    · exact .inl (by rw [hn]; rfl)
    · exact .inr ⟨b, o, e, fun j hj => (World.cell?_of_block (hb b o e hn)).trans (h3 j hj)⟩
set_option maxRecDepth 100000 in
set_option maxHeartbeats 1600000 in
theorem wdg_any (B i n g off c nn : Nat) (r : Rw) (f : Fp) (S : List Int) (a : Option Addr) (sc : Nat) (X : World) (h : Plc X g (off + i * 8) (rw8 r) f) (hBg : B ≠ g) (hfB : ¬ f B) (c0 : X.cell? ⟨B, 0, none⟩ = some (.int .i64 (i : Int))) (c1 : X.cell? ⟨B, 1, none⟩ = some (.slice (some ⟨g, off, none⟩) n c)) (hi : i < n)
    (hv : Vec X a S.length S) (hvb : ∀ b o, a = some ⟨b, o, none⟩ → S ≠ [] → ¬ f b ∧ b ≠ g) (hr : OkR r nn) (hS : ∀ x ∈ S, 0 ≤ x ∧ x < (nn : Int)) (hSl : S.length ≤ 100) :
    Calls Tryz.prog 97 #[.pointer (some ⟨B, 0, none⟩), .slice a S.length sc] X fun e w' => e = .returned (.tuple #[]) ∧ Bcm X w' g (off + i * 8) (rw8 (wdR i r S S.length)) f := by
  have hOw := own_any B i n g off c X c0 c1 hi
  have HP : Hid (Plc X g (off + i * 8) (rw8 r) f) := h
  have HV : Hid (Vec X a S.length S) := hv
  have HVB : Hid (∀ b o, a = some ⟨b, o, none⟩ → S ≠ [] → ¬ f b ∧ b ≠ g) := hvb
  have HC0 : Hid (X.cell? ⟨B, 0, none⟩ = some (.int .i64 (i : Int))) := c0
  have HW : Hid (∀ k, (wdR i r S k).sus.Pairwise (· < ·) ∧ (∀ x ∈ (wdR i r S k).sus, 0 ≤ x ∧ x < (nn : Int)) ∧ (wdR i r S k).sus.length ≤ 5) := fun k => wdR_sus hr hS k
  have H5 : Hid (1 ≤ nn ∧ nn ≤ 5) := hr.n5
  have HSx : Hid (∀ x ∈ S, 0 ≤ x ∧ x < (nn : Int)) := hS
  have hBlt := World.block_lt_of_cell? _ _ c0
  clear h hv hvb c0 c1 hr hS
  go_enter Tryz.func97, Tryz.ntmps97
  go_wp2_with fail
  refine hOw.mono ?_
  rintro e XA ⟨rfl, hbA⟩
  obtain ⟨u4, f4, hu4, hz4, ⟨rfl, hf4⟩, hs4, hn4, hset4⟩ := (HP.out.below hbA).at (j := 4) rfl
  obtain ⟨_, _, B4, _⟩ := hset4 XA (.v (.bool true)) (.bool true) (fun _ => False) (Wrt.refl _ _) ⟨rfl, fun _ h => h⟩ (fun b hb => hb.elim)
  have HB4 : Hid (Bcm X (XA.setCell ⟨g, off + i * 8 + 4, none⟩ (.bool true)) g (off + i * 8) (rw8 (wdR i r S 0)) f) := B4.first hbA HP.out.lt HP.out.flt
  clear hset4 B4 hs4 hn4 hf4 hOw
  go_upto_region 3 with fail
  generalize XA.setCell ⟨g, off + i * 8 + 4, none⟩ (.bool true) = W4 at *
  clear hu4 hz4 hbA
  go_loopw [16] (fun v wr => ∃ k : Nat, k ≤ S.length ∧ v = .int .i64 (k : Int) ∧ Bcm X wr g (off + i * 8) (rw8 (wdR i r S k)) f) (fun v _ => S.length - (intOf v).toNat)
  case atStart => exact ⟨0, Nat.zero_le _, rfl, HB4.out⟩
  case round =>
    obtain ⟨k, hk, rfl, hB⟩ := hrel
    have HB : Hid (Bcm X wr g (off + i * 8) (rw8 (wdR i r S k)) f) := hB
    clear HB4
    by_cases hlt : k < S.length
    · have hne : S ≠ [] := fun e => by rw [e] at hlt; simp at hlt
      have hvw := vec_block HV.out (fun b o e hn => hB.wrt.block b (by
        rcases HV.out.2.2 with h | ⟨b', o', e', h⟩
        · omega
        · rw [e'] at e; cases e; exact World.block_lt_of_cell? _ _ (h k hlt)) (fun kk => by have := HVB.out b o e hn; rcases kk with kk | kk; exact this.1 kk; exact this.2 kk))
      rcases hvw.2.2 with h0 | ⟨sb, so, rfl, hsc⟩
      · omega
      have hck := hsc k hlt
      have b0 : wr.cell? ⟨B, 0, none⟩ = some (.int .i64 (i : Int)) := (World.cell?_of_block (hB.wrt.block B hBlt (fun kk => by rcases kk with kk | kk; exact hfB kk; exact hBg kk))).trans HC0.out
      obtain ⟨fp1, hp1, hf1, hgo⟩ := hB.next
      obtain ⟨u, f3, hu, hz, how, hsub, hn3, hset⟩ := hp1.at (j := 3) rfl
      have how' : Cel.ow wr (icl (wdR i r S k).sus) u f3 := how
      obtain ⟨sa, sac, _, rfl, _⟩ := ow_icl.1 how'
      obtain ⟨w1, w2, w3⟩ := HW.out k
      have h5 := H5.out
      have hfit : Fits (wdR i r S k).sus := fun x hx => by have := w2 x hx; omega
      have hBs := bs_any sa sac (wdR i r S k).sus (el S k) wr (vec_of_ow how' hfit) (by omega) w1
      have hT := learnS_take (id := i) (s := r.sus) hlt
      have k0 : (0 : Int) ≤ (k : Int) := by omega
      have k1 : (k : Int) < (S.length : Int) := by omega
      have HN1 : Hid (el S k = (i : Int) → wdR i r S (k + 1) = wdR i r S k) := fun e => by rw [wdR, hT, if_pos e]; rfl
      have HN2 : Hid (el S k ≠ (i : Int) → el S k ∈ (wdR i r S k).sus → wdR i r S (k + 1) = wdR i r S k) := fun e hm => by
        rw [wdR, hT, if_neg e, show putL (learnS i r.sus (S.take k)) (el S k) = learnS i r.sus (S.take k) from putL_self w1 hm]
        rfl
      have HN3 : Hid (el S k ≠ (i : Int) → wdR i r S (k + 1) = { wdR i r S k with sus := putL (wdR i r S k).sus (el S k) }) := fun e => by rw [wdR, hT, if_neg e]; rfl
      have hx0 : 0 ≤ el S k ∧ el S k < 5 := by have := HSx.out _ (el_mem hlt); omega
      have HSet : Hid (∀ (w1 : World) (c' : Cel) (u' : Value) (f' : Fp), Wrt f3 wr w1 → Cel.ow w1 c' u' f' → (∀ b, f' b → f3 b ∨ wr.heap.size ≤ b) → w1.cell? ⟨g, off + i * 8 + 3, none⟩ = some (.slice sa (wdR i r S k).sus.length sac) ∧ w1.frozen? ⟨g, off + i * 8 + 3, none⟩ = false ∧ Bcm X (w1.setCell ⟨g, off + i * 8 + 3, none⟩ u') g (off + i * 8) ((rw8 (wdR i r S k)).set 3 c') f) := fun w1 c' u' f' q1 q2 q3 => by
        obtain ⟨p1, p2, p3, _⟩ := hset w1 c' u' f' q1 q2 q3
        exact ⟨p1, p2, hgo _ _ (by simp) p3⟩
      have HOw : Hid (Cel.ow wr (icl (wdR i r S k).sus) (.slice sa (wdR i r S k).sus.length sac) f3) := how'
      clear hvw hsc hB hp1 hf1 hgo hset how how' hsub hn3 hfit hT w1 w2
      generalize hwd : wdR i r S k = rk at *
      generalize el S k = x at *
      by_cases hin : x ∈ rk.sus
      · have HE : Hid (wdR i r S (k + 1) = rk) := by
          by_cases e : x = (i : Int)
          · exact HN1.out e
          · exact HN2.out e hin
        rw [decide_eq_true hin] at hBs
        clear hin
        go_wp2_with (go_at_call 139; refine hBs.mono ?_; rintro e w' ⟨kk, hkk, rfl, hw', _⟩; rw [hw']; clear hw')
        go_roundw
        case rel => exact ⟨k + 1, by omega, by go_num, by rw [HE.out]; exact HB.out⟩
        case measure => simp [intOf]; omega
      rw [decide_eq_false hin] at hBs
      by_cases e : x = (i : Int)
      · have HE : Hid (wdR i r S (k + 1) = rk) := HN1.out e
        have e' : (x != (i : Int)) = false := by simp [e]
        clear hin e
        go_wp2_with (go_at_call 139; refine hBs.mono ?_; rintro e w' ⟨kk, hkk, rfl, hw', _⟩; rw [hw']; clear hw')
        go_roundw
        case rel => exact ⟨k + 1, by omega, by go_num, by rw [HE.out]; exact HB.out⟩
        case measure => simp [intOf]; omega
      have HE : Hid (wdR i r S (k + 1) = { rk with sus := putL rk.sus x }) := HN3.out e
      have e' : (x != (i : Int)) = true := by simp [e]
      have HIn : Hid (x ∉ rk.sus) := hin
      have HM : Hid (rk.sus.length ≤ 100) := by rw [Hid]; omega
      clear hin e
      go_upto_region 7 with (go_at_call 139; refine hBs.mono ?_; rintro e w' ⟨kk, hkk, rfl, hw', hput⟩; rw [hw']; clear hw')
      have hpt := hput HIn.out
      have hIn := ins_any sa sac kk rk.sus x f3 wr HOw.out hkk HM.out
      rw [hpt] at hIn
      clear hput hpt hBs
      go_wp2_with (go_at_call 140; refine hIn.mono ?_; rintro e w9 ⟨a9, c9, f9, rfl, o9, p9, q9⟩; obtain ⟨z1, z2, hB9⟩ := HSet.out w9 (icl (putL rk.sus x)) (.slice a9 (rk.sus.length + 1) c9) f9 q9 o9 p9; have HB9 : Hid (Bcm X (w9.setCell ⟨g, off + i * 8 + 3, none⟩ (.slice a9 (rk.sus.length + 1) c9)) g (off + i * 8) ((rw8 rk).set 3 (icl (putL rk.sus x))) f) := hB9; clear o9 p9 q9 hB9 hIn hu hz)
      go_roundw
      case rel => exact ⟨k + 1, by omega, by go_num, by rw [HE.out]; exact HB9.out⟩
      case measure => simp [intOf]; omega
    · have k1 : ¬ ((k : Int) < (S.length : Int)) := by omega
      obtain rfl : k = S.length := by omega
      clear hB
      go_wp2
      first | go_end0 | go_ret
      exact ⟨rfl, HB.out⟩
end Go.Proofs.YtgfeabgmllkdeaaGreat

/-
  The program's doubt.
-/
namespace Go.Proofs.YtgfeabgmllkdeaaGreat
set_option linter.unusedVariables false
set_option linter.unusedSimpArgs false
open Go.RowKit Go.Sort

/-- The own row of a member under work, as a place; and what becomes of the member. -/
theorem Iw.own {w X : World} {B : Nat} {m : Mb} {fp : Fp} {g off c : Nat} (h : Iw w X B m fp g off c) {i : Nat} (hi : i < m.rows.length) : ∃ f, Plc X g (off + i * 8) (rw8 (rowN m.rows i)) f ∧ B ≠ g ∧ ¬ f B ∧ (∀ b, f b → b < X.heap.size) ∧ g < X.heap.size ∧ ∀ (X1 Y : World) (r : Rw), Below X.heap.size X X1 → Bcm X1 Y g (off + i * 8) (rw8 r) f → Iw w Y B { m with rows := m.rows.set i r } fp g off c := by
  obtain ⟨fp1, hp, hf1, hgo⟩ := h.bcm.next
  obtain ⟨g', off', c', f, h1, hgB, hfg, hfs, hpl, hput⟩ := hp.el (F := rw8) rw8_len (by omega) (j := 1) (L := m.rows) rfl (rowN_at hi)
  have e := Option.some.inj (h1.symm.trans h.rws)
  cases e
  have hfB : ¬ f B := fun hb => hp.nB (hfs B hb)
  refine ⟨f, hpl, fun e => hgB e.symm, hfB, hpl.flt, hpl.lt, fun X1 Y r hb hB => ?_⟩
  have hB1 := hB.first hb hpl.lt hpl.flt
  refine ⟨hgo Y _ rfl (hput Y r hB1), ?_⟩
  rw [World.cell?_of_block (hB1.wrt.block B hp.lt (fun kk => by rcases kk with kk | kk; exact hfB kk; exact hgB kk.symm)), h.rws]
  simp
theorem oth_doubt {m : Mb} {i n : Nat} (ok : OkM m i n) (who : Int) (hd : m.done = false) : (othB i n (rowN m.rows i).sus who = false → (doubtMb m who).2 = false) ∧ (othB i n (rowN m.rows i).sus who = true → (rowN m.rows i).ver = 1000000 → (doubtMb m who).2 = false) ∧ (othB i n (rowN m.rows i).sus who = true → (rowN m.rows i).ver ≠ 1000000 → doubtMb m who = ({ m with rows := m.rows.set i { wdR i (rowN m.rows i) [who] 1 with ver := (rowN m.rows i).ver + 1 } }, true)) := by
  have e : m.i = i := by unfold Mb.i; rw [ok.hid]; rfl
  have key : othB i n (rowN m.rows i).sus who = true ↔ ¬ (inB who 0 (m.n - 1) = false ∨ who = m.id ∨ who ∈ (rowN m.rows i).sus) := by
    unfold othB
    rw [ok.hn, ok.hid]
    simp only [Bool.and_eq_true, decide_eq_true_eq, not_or, Bool.not_eq_false]
    exact ⟨fun h => ⟨h.2.1, h.1, h.2.2⟩, fun h => ⟨h.2.1, h.1, h.2.2⟩⟩
  unfold doubtMb
  rw [Mb.own, e]
  refine ⟨fun h => ?_, fun h hv => ?_, fun h hv => ?_⟩
  · rw [if_pos]
    have : ¬ ¬ (inB who 0 (m.n - 1) = false ∨ who = m.id ∨ who ∈ (rowN m.rows i).sus) := fun hn => by rw [key.2 hn] at h; cases h
    rcases Classical.not_not.1 this with h | h | h
    · exact .inl h
    · exact .inr (.inl h)
    · exact .inr (.inr (.inl h))
  · rw [if_pos (.inr (.inr (.inr (.inr hv))))]
  · have hk := key.1 h
    simp only [not_or] at hk
    rw [if_neg (by rintro (h | h | h | h | h); exact hk.1 h; exact hk.2.1 h; exact hk.2.2 h; rw [hd] at h; cases h; exact hv h)]
    have hw : learnS i (rowN m.rows i).sus ([who].take 1) = putL (rowN m.rows i).sus who := by
      show (if who = (i : Int) then _ else putL (rowN m.rows i).sus who) = _
      rw [if_neg (by rw [← ok.hid]; exact hk.2.1)]
    rw [wdR, hw, Mb.put, e]
set_option maxRecDepth 100000 in
set_option maxHeartbeats 1600000 in
theorem dbt_any (B : Nat) (m : Mb) (i n : Nat) (who : Int) (fp : Fp) (w : World) (h : Plc w B 0 (mb4 m) fp) (ok : OkM m i n) (hd : m.done = false) :
    Calls Tryz.prog 51 #[.pointer (some ⟨B, 0, none⟩), .int .i64 who] w fun e w' => ((doubtMb m who).2 = true ∧ e = .returned (.tuple #[]) ∧ Bcm w w' B 0 (mb4 (doubtMb m who).1) fp) ∨ ((doubtMb m who).2 = false ∧ Gu e ∧ ∃ m1, Bcm w w' B 0 (mb4 m1) fp) := by
  have hil : i < m.rows.length := by rw [ok.len]; exact ok.lt
  have hn5 := ok.n5
  obtain ⟨g, off, c, M0⟩ := Iw.start h (by omega)
  obtain ⟨c0, c3⟩ := M0.id'
  have c1 := M0.rws
  rw [ok.hid] at c0
  obtain ⟨Ak, ⟨⟨d0, d1, d2, d3⟩, d4, d5, d6, d7⟩, hrs⟩ := M0.row ok.fit hil
  have hO := oth_any B i n g off c Ak.sa Ak.sc (rowN m.rows i).sus who w c0 (by rw [← ok.len]; exact c1) ok.lt hn5.2 d3 hrs.sus hrs.ms
  have HM0 : Hid (Iw w w B m fp g off c) := M0
  obtain ⟨p1, p2, p3⟩ := oth_doubt ok who hd
  have HD : Hid ((othB i n (rowN m.rows i).sus who = false → (doubtMb m who).2 = false) ∧ (othB i n (rowN m.rows i).sus who = true → (rowN m.rows i).ver = 1000000 → (doubtMb m who).2 = false) ∧ (othB i n (rowN m.rows i).sus who = true → (rowN m.rows i).ver ≠ 1000000 → doubtMb m who = ({ m with rows := m.rows.set i { wdR i (rowN m.rows i) [who] 1 with ver := (rowN m.rows i).ver + 1 } }, true))) := ⟨p1, p2, p3⟩
  clear M0 h c0 c1 c3 d0 d1 d2 d3 d4 d5 d6 d7 hrs p1 p2 p3
  cases e1 : othB i n (rowN m.rows i).sus who with
  | false =>
    have HZ : Hid ((doubtMb m who).2 = false) := HD.out.1 e1
    rw [e1] at hO
    go_enter Tryz.func51, Tryz.ntmps51
    go_wp2_with (first | (go_at_call 96; refine hO.mono ?_; rintro e wA ⟨rfl, hbA⟩; have HG : Hid (∃ m1, Bcm w wA B 0 (mb4 m1) fp) := ⟨m, (HM0.out.step hbA).bcm⟩; clear hbA) | (go_at_call 91; refine (wantF _).mono ?_; rintro e w' ⟨⟨T, v, rfl⟩, hw'⟩; rw [hw']; clear hw'))
    exact ⟨rfl, .inr ⟨HZ.out, ⟨_, _, rfl⟩, HG.out⟩⟩
  | true =>
  have HE1 : Hid (othB i n (rowN m.rows i).sus who = true) := e1
  have hwho : 0 ≤ who ∧ who < (n : Int) := by
    unfold othB at e1
    simp only [Bool.and_eq_true] at e1
    have := inB7.1 e1.2.1
    omega
  rw [e1] at hO
  clear e1
  go_enter Tryz.func51, Tryz.ntmps51
  go_upto_region 1 with (first | (go_at_call 96; refine hO.mono ?_; rintro e wA ⟨rfl, hbA⟩; have HM1 : Hid (Iw w wA B m fp g off c) := HM0.out.step hbA; clear hbA) | (go_at_call 91; refine (wantT _).mono ?_; rintro e w' ⟨rfl, hw'⟩; rw [hw']; clear hw'))
  obtain ⟨f, hpl, hBg, hfB, hfl, hgl, hput⟩ := HM1.out.own hil
  have hba := oneA16 wA (.cells #[.int .i64 who] 2)
  have hxv := Bx.new wA 2 #[.int .i64 who]
  obtain ⟨c0, _⟩ := (HM1.out.step hba).id'
  have c1 := (HM1.out.step hba).rws
  rw [ok.hid] at c0
  have hV : Vec (wA.alloc (.cells #[.int .i64 who] 2)) (some ⟨wA.heap.size, 0, none⟩) [who].length [who] := ⟨rfl, fun x hx => by rw [List.mem_singleton.1 hx]; omega, .inr ⟨wA.heap.size, 0, rfl, fun j hj => by
    match j, hj with
    | 0, _ => exact hxv.at 0 rfl⟩⟩
  have hWd := wdg_any B i m.rows.length g off c n (rowN m.rows i) f [who] (some ⟨wA.heap.size, 0, none⟩) 1 _ (hpl.below hba) hBg hfB c0 c1 hil hV (fun b o e _ => by cases e; exact ⟨fun k => by have := hfl _ k; omega, by omega⟩) (ok.ok i ok.lt) (fun x hx => by rw [List.mem_singleton.1 hx]; exact hwho) (by simp)
  have hWd2 : Calls Tryz.prog 97 #[.pointer (some ⟨B, 0, none⟩), .slice (some ⟨wA.heap.size, 0, none⟩) 1 1] (wA.alloc (.cells #[.int .i64 who] 2)) fun e w' => e = .returned (.tuple #[]) ∧ Iw w w' B { m with rows := m.rows.set i (wdR i (rowN m.rows i) [who] 1) } fp g off c := hWd.mono (fun e w' h => ⟨h.1, hput _ w' _ hba h.2⟩)
  clear hWd hpl hput hba hxv c0 c1 hV hfl
  go_upto_region 2 with (go_at_call 97; refine hWd2.mono ?_; rintro e wB ⟨rfl, hM2⟩; have HM2 : Hid (Iw w wB B { m with rows := m.rows.set i (wdR i (rowN m.rows i) [who] 1) } fp g off c) := hM2; clear hM2)
  clear hWd2
  have hil2 : i < (m.rows.set i (wdR i (rowN m.rows i) [who] 1)).length := by rw [List.length_set]; exact hil
  obtain ⟨c0, _⟩ := HM2.out.id'
  simp only at c0
  rw [ok.hid] at c0
  have c1 := HM2.out.rws
  simp only [List.length_set] at c1
  have hOw := own_any B i m.rows.length g off c wB c0 c1 hil
  have hs2 : rowN (m.rows.set i (wdR i (rowN m.rows i) [who] 1)) i = wdR i (rowN m.rows i) [who] 1 := rowN_self hil
  have hvb := (ok.ok i ok.lt).ver
  have HFin : Hid (∀ wC, Below wB.heap.size wB wC → wC.cell? ⟨g, off + i * 8, none⟩ = some (.int .i64 (rowN m.rows i).ver) ∧ wC.frozen? ⟨g, off + i * 8, none⟩ = false ∧ (∃ m1, Bcm w wC B 0 (mb4 m1) fp) ∧ Bcm w (wC.setCell ⟨g, off + i * 8, none⟩ (.int .i64 ((rowN m.rows i).ver + 1))) B 0 (mb4 { m with rows := m.rows.set i { wdR i (rowN m.rows i) [who] 1 with ver := (rowN m.rows i).ver + 1 } }) fp) := fun wC hb => by
    have M3 := HM2.out.step hb
    obtain ⟨v1, v2, hM5⟩ := M3.put hil2 (j := 0) (x := .int .i64 (rowN m.rows i).ver) (y := .int .i64 ((rowN m.rows i).ver + 1)) (r' := { wdR i (rowN m.rows i) [who] 1 with ver := (rowN m.rows i).ver + 1 }) (by simp only [hs2]; rfl) (by simp only [hs2]; rfl)
    simp only [Nat.add_zero, List.set_set] at v1 v2 hM5
    exact ⟨v1, v2, ⟨_, M3.bcm⟩, hM5.bcm⟩
  clear c0 c1 hs2 hil2
  by_cases hver : (rowN m.rows i).ver = 1000000
  · have HZ : Hid ((doubtMb m who).2 = false) := HD.out.2.1 HE1.out hver
    go_wp2_with (first | (go_at_call 93; refine hOw.mono ?_; rintro e wC ⟨rfl, hbC⟩; obtain ⟨v1, v2, hG, _⟩ := HFin.out wC hbC; have HG : Hid (∃ m1, Bcm w wC B 0 (mb4 m1) fp) := hG; have hnv := nvF_any g (off + i * 8) (rowN m.rows i).ver wC v1 (by omega); clear hbC hG v1 v2) | (go_at_call 95; refine hnv.mono ?_; rintro e w' ⟨⟨T, v, rfl⟩, hw'⟩; rw [hw']; clear hw'))
    exact ⟨rfl, .inr ⟨HZ.out, ⟨_, _, rfl⟩, HG.out⟩⟩
  · have HZ : Hid (doubtMb m who = ({ m with rows := m.rows.set i { wdR i (rowN m.rows i) [who] 1 with ver := (rowN m.rows i).ver + 1 } }, true)) := HD.out.2.2 HE1.out hver
    go_wp2_with (first | (go_at_call 93; refine hOw.mono ?_; rintro e wC ⟨rfl, hbC⟩; obtain ⟨v1, v2, _, hG⟩ := HFin.out wC hbC; have HG : Hid (Bcm w (wC.setCell ⟨g, off + i * 8, none⟩ (.int .i64 ((rowN m.rows i).ver + 1))) B 0 (mb4 { m with rows := m.rows.set i { wdR i (rowN m.rows i) [who] 1 with ver := (rowN m.rows i).ver + 1 } }) fp) := hG; have hnv := nvT_any g (off + i * 8) (rowN m.rows i).ver wC v1 v2 (by omega) (by omega); clear hbC hG v1 v2) | (go_at_call 95; refine hnv.mono ?_; rintro e w' ⟨rfl, hw'⟩; rw [hw']; clear hw'))
    first | go_end0 | go_ret
    rw [HZ.out]
    exact .inl ⟨rfl, rfl, HG.out⟩
end Go.Proofs.YtgfeabgmllkdeaaGreat

/-
  The program's Doubt.
-/
namespace Go.Proofs.YtgfeabgmllkdeaaGreat
set_option linter.unusedVariables false
set_option linter.unusedSimpArgs false
open Go.RowKit Go.Sort

theorem doubt_wkd (m : Mb) (who : Int) : dbtM m who = wkdM m (doubtMb m who).1 (doubtMb m who).2 := by
  unfold dbtM wkdM
  split
  · by_cases hd : m.done = true
    · rw [if_pos hd, doubtMb, if_pos (.inr (.inr (.inr (.inl hd))))]
    · rw [if_neg hd]
      cases hf : (doubtMb m who).2 with
      | true => rw [if_pos rfl, ← hf]
      | false =>
        rw [if_neg (by decide)]
        unfold doubtMb at hf ⊢
        split at hf
        · rename_i h; rw [if_pos h]
        · cases hf
  · rfl
set_option maxRecDepth 100000 in
set_option maxHeartbeats 800000 in
theorem dbt1_any (B : Nat) (who : Int) (b1 : Nat) (X : World) (R : Ending → World → Prop) (hc : X.cell? ⟨b1, 0, none⟩ = some (.int .i64 who)) (hS : Calls Tryz.prog 51 #[.pointer (some ⟨B, 0, none⟩), .int .i64 who] X R) (hR : ∀ e w', R e w' → e = .returned (.tuple #[]) ∨ Gu e) :
    Calls Tryz.prog 50 #[.pointer (some ⟨B, 0, none⟩), .pointer (some ⟨b1, 0, none⟩)] X R := by
  have HR : Hid (∀ e w', R e w' → e = .returned (.tuple #[]) ∨ Gu e) := hR
  clear hR
  go_enter Tryz.func50, Tryz.ntmps50
  go_wp2_with fail
  refine hS.mono ?_
  intro e w1 hRe
  rcases HR.out e w1 hRe with rfl | ⟨T, v, rfl⟩
  · have HRe : Hid (R (.returned (.tuple #[])) w1) := hRe
    clear hRe hS
    go_wp2
    first | go_end0 | go_ret
    exact HRe.out
  · exact ⟨rfl, hRe⟩
set_option maxRecDepth 100000 in
set_option maxHeartbeats 1600000 in
theorem implDoubt : ImplDoubt := by
  intro A m who w hv h6
  have hmf : ∀ (fn : Fn) (first cap : Array Value) (w : World), (Instr.makeFunc fn first cap).run Tryz.prog w = .ok (.func fn first cap) w := fun _ _ _ _ => rfl
  have a0 := oneA16 w (.cells #[.int .i64 m.id, .int .i64 m.n, .slice A.ra m.rows.length A.rc, .slice A.sa m.sung.length A.sc, .bool m.done] 27)
  have hb0 : Below w.heap.size w (w.alloc (.cells #[.int .i64 m.id, .int .i64 m.n, .slice A.ra m.rows.length A.rc, .slice A.sa m.sung.length A.sc, .bool m.done] 27)) := a0
  have a1 := oneA16 (w.alloc (.cells #[.int .i64 m.id, .int .i64 m.n, .slice A.ra m.rows.length A.rc, .slice A.sa m.sung.length A.sc, .bool m.done] 27)) (.cells #[.int .i64 who] 2)
  have hb1 : Below w.heap.size w ((w.alloc (.cells #[.int .i64 m.id, .int .i64 m.n, .slice A.ra m.rows.length A.rc, .slice A.sa m.sung.length A.sc, .bool m.done] 27)).alloc (.cells #[.int .i64 who] 2)) := hb0.trans (a1.mono hb0.size)
  have a2 := oneA16 ((w.alloc (.cells #[.int .i64 m.id, .int .i64 m.n, .slice A.ra m.rows.length A.rc, .slice A.sa m.sung.length A.sc, .bool m.done] 27)).alloc (.cells #[.int .i64 who] 2)) (.cells #[.int .i64 0, .int .i64 0, .slice none 0 0, .slice none 0 0, .bool false] 27)
  have hb2 : Below w.heap.size w (((w.alloc (.cells #[.int .i64 m.id, .int .i64 m.n, .slice A.ra m.rows.length A.rc, .slice A.sa m.sung.length A.sc, .bool m.done] 27)).alloc (.cells #[.int .i64 who] 2)).alloc (.cells #[.int .i64 0, .int .i64 0, .slice none 0 0, .slice none 0 0, .bool false] 27)) := hb1.trans (a2.mono hb1.size)
  have hx0 : Bx (((w.alloc (.cells #[.int .i64 m.id, .int .i64 m.n, .slice A.ra m.rows.length A.rc, .slice A.sa m.sung.length A.sc, .bool m.done] 27)).alloc (.cells #[.int .i64 who] 2)).alloc (.cells #[.int .i64 0, .int .i64 0, .slice none 0 0, .slice none 0 0, .bool false] 27)) (w.heap.size) 27 #[.int .i64 m.id, .int .i64 m.n, .slice A.ra m.rows.length A.rc, .slice A.sa m.sung.length A.sc, .bool m.done] := by
    have := ((Bx.new w 27 #[.int .i64 m.id, .int .i64 m.n, .slice A.ra m.rows.length A.rc, .slice A.sa m.sung.length A.sc, .bool m.done]).alloc (.cells #[.int .i64 who] 2)).alloc (.cells #[.int .i64 0, .int .i64 0, .slice none 0 0, .slice none 0 0, .bool false] 27)
    try simp only [World.size_alloc] at this
    exact this
  have hx1 : Bx (((w.alloc (.cells #[.int .i64 m.id, .int .i64 m.n, .slice A.ra m.rows.length A.rc, .slice A.sa m.sung.length A.sc, .bool m.done] 27)).alloc (.cells #[.int .i64 who] 2)).alloc (.cells #[.int .i64 0, .int .i64 0, .slice none 0 0, .slice none 0 0, .bool false] 27)) (w.heap.size + 1) 2 #[.int .i64 who] := by
    have := (Bx.new (w.alloc (.cells #[.int .i64 m.id, .int .i64 m.n, .slice A.ra m.rows.length A.rc, .slice A.sa m.sung.length A.sc, .bool m.done] 27)) 2 #[.int .i64 who]).alloc (.cells #[.int .i64 0, .int .i64 0, .slice none 0 0, .slice none 0 0, .bool false] 27)
    try simp only [World.size_alloc] at this
    exact this
  have hx2 : Bx (((w.alloc (.cells #[.int .i64 m.id, .int .i64 m.n, .slice A.ra m.rows.length A.rc, .slice A.sa m.sung.length A.sc, .bool m.done] 27)).alloc (.cells #[.int .i64 who] 2)).alloc (.cells #[.int .i64 0, .int .i64 0, .slice none 0 0, .slice none 0 0, .bool false] 27)) (w.heap.size + 1 + 1) 27 #[.int .i64 0, .int .i64 0, .slice none 0 0, .slice none 0 0, .bool false] := by
    have := Bx.new ((w.alloc (.cells #[.int .i64 m.id, .int .i64 m.n, .slice A.ra m.rows.length A.rc, .slice A.sa m.sung.length A.sc, .bool m.done] 27)).alloc (.cells #[.int .i64 who] 2)) 27 #[.int .i64 0, .int .i64 0, .slice none 0 0, .slice none 0 0, .bool false]
    try simp only [World.size_alloc] at this
    exact this
  have hP := hv.below hb2
  have hWk := wkd_any 50 #[.pointer (some ⟨w.heap.size + 1, 0, none⟩)] A m (doubtMb m who).1 (doubtMb m who).2 (((w.alloc (.cells #[.int .i64 m.id, .int .i64 m.n, .slice A.ra m.rows.length A.rc, .slice A.sa m.sung.length A.sc, .bool m.done] 27)).alloc (.cells #[.int .i64 who] 2)).alloc (.cells #[.int .i64 0, .int .i64 0, .slice none 0 0, .slice none 0 0, .bool false] 27)) hP (fun _ _ => enters_of Tryz.func50 (by kernel_rfl) rfl _ _)
    (fun hok hf => by
      obtain ⟨i, n, ok⟩ := okMb_iff.1 hok
      have := (doubt_loc ok who).1
      rw [this.hn, this.len])
    (fun X B fp i n hX hpl ok hd => dbt1_any B who (w.heap.size + 1) X _ ((hx1.below hX).at 0 rfl) (dbt_any B m i n who fp X hpl ok hd) (fun e w' h => by
      rcases h with ⟨_, h, _⟩ | ⟨_, h, _⟩
      · exact .inl h
      · exact .inr h))
  have HZ0 := doubt_wkd m who
  unfold mbV mbC at hWk
  have hWl := hx2.lt
  obtain ⟨c0, c1, c2, c3, c4⟩ := Bx.r5 hx0
  have HR0 : Hid (Bx (((w.alloc (.cells #[.int .i64 m.id, .int .i64 m.n, .slice A.ra m.rows.length A.rc, .slice A.sa m.sung.length A.sc, .bool m.done] 27)).alloc (.cells #[.int .i64 who] 2)).alloc (.cells #[.int .i64 0, .int .i64 0, .slice none 0 0, .slice none 0 0, .bool false] 27)) (w.heap.size + 1 + 1) 27 #[.int .i64 0, .int .i64 0, .slice none 0 0, .slice none 0 0, .bool false]) := hx2
  have HB0 : Hid (Below w.heap.size w (((w.alloc (.cells #[.int .i64 m.id, .int .i64 m.n, .slice A.ra m.rows.length A.rc, .slice A.sa m.sung.length A.sc, .bool m.done] 27)).alloc (.cells #[.int .i64 who] 2)).alloc (.cells #[.int .i64 0, .int .i64 0, .slice none 0 0, .slice none 0 0, .bool false] 27))) := hb2
  have HZ : Hid (dbtM m who = wkdM m (doubtMb m who).1 (doubtMb m who).2) := HZ0
  clear a0 a1 a2 hb0 hb1 hb2 hx0 hx1 hx2 hP hv HZ0
  unfold mbV mbC
  generalize wkdM m (doubtMb m who).1 (doubtMb m who).2 = pm at *
  go_enter Tryz.func12, Tryz.ntmps12
  go_wp2_with fail
  generalize (((w.alloc (.cells #[.int .i64 m.id, .int .i64 m.n, .slice A.ra m.rows.length A.rc, .slice A.sa m.sung.length A.sc, .bool m.done] 27)).alloc (.cells #[.int .i64 who] 2)).alloc (.cells #[.int .i64 0, .int .i64 0, .slice none 0 0, .slice none 0 0, .bool false] 27)) = W0 at *
  refine hWk.mono ?_
  rintro e w1 ⟨A2, rfl, fp, hl, hf, hb⟩
  have hR := HR0.out.below hb
  have hsz := hb.size
  have HN : Hid (∀ {z0 z1 z2 z3 z4 : Value}, NewL w (((((w1.setCell ⟨w.heap.size + 1 + 1, 0, none⟩ z0).setCell ⟨w.heap.size + 1 + 1, 1, none⟩ z1).setCell ⟨w.heap.size + 1 + 1, 2, none⟩ z2).setCell ⟨w.heap.size + 1 + 1, 3, none⟩ z3).setCell ⟨w.heap.size + 1 + 1, 4, none⟩ z4) (mbCels pm.1) (mbVals A2 pm.1)) := fun {z0 z1 z2 z3 z4} => by
    have hB1 : Below w.heap.size w w1 := HB0.out.trans (hb.mono HB0.out.size)
    exact ⟨fp, owL_wrt hl (wrt5 w1 (w.heap.size + 1 + 1)) (fun x hx e => by have := hf x hx; omega), fun x hx => by have := hf x hx; omega, (wrt5 w1 (w.heap.size + 1 + 1)).below hB1 hB1.size (fun x e => by omega)⟩
  obtain ⟨z0, z1, z2, z3, z4⟩ := Bx.r5 hR
  obtain ⟨r0, r1, r2, r3, r4⟩ := hR.f5
  clear hWk hl hf hb hR c0 c1 c2 c3 c4
  unfold mbV mbC
  go_wp2
  refine bodyPost_ret (v := .tuple #[mbV A2 pm.1, .bool pm.2]) (by simp [results, Tryz.results12, go_sem, mbV, mbC, *]) rfl ?_
  rw [HZ.out]
  exact ⟨_, rfl, HN.out⟩
end Go.Proofs.YtgfeabgmllkdeaaGreat
