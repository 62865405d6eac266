/-
  Several texts in one: Kst Irl.
-/
import Derived.Test.YtdniajogojlmdaaJp
import Derived.Maps.OwnSet
import Derived.DeepKeys4
import Derived.BigQuiet
/-
  Sets (maps to the empty struct) as lists without a number twice; the program's generic set of holdings and of numbers.
-/
namespace Go.Proofs.Ytdniajogojlmdaa
set_option linter.unusedSimpArgs false
set_option linter.unusedVariables false
open Go.RowKit Go.Sort
open Go.Maps (Keyed)

section
variable {α : Type} [DecidableEq α]
/-- Block B is a set of keys of type kt that holds just L. -/
def KS (kt : TypeId) (kv : α → Value) (w : World) (B : Nat) (L : List α) : Prop :=
  L.Nodup ∧ ∃ D : DataW Unit, w.ownsMap Try.prog kt unitElem B L.length D ∧ Go.Maps.size D = L.length ∧ ∀ a kl, keyOf Try.prog kt (kv a) = some kl → Go.Maps.has D kl = decide (a ∈ L)
/-- One more, if it is not in yet. -/
def addL (L : List α) (x : α) : List α := if x ∈ L then L else x :: L
theorem mem_addL {L : List α} {x y : α} : y ∈ addL L x ↔ y = x ∨ y ∈ L := by
  unfold addL
  split
  · rename_i h
    exact ⟨.inr, fun e => e.elim (fun e => e ▸ h) id⟩
  · exact List.mem_cons
variable {kt : TypeId} {kv : α → Value}
theorem KS.lt {w : World} {B : Nat} {L : List α} (h : KS kt kv w B L) : B < w.heap.size := by obtain ⟨_, D, h, _⟩ := h; exact h.lt
theorem KS.kept {w w' : World} {B : Nat} {L : List α} {r : Option Nat} (h : KS kt kv w B L) (hg : w.grownBy w' r) (hr : some B ≠ r) : KS kt kv w' B L := by
  obtain ⟨h0, D, h1, h2⟩ := h
  exact ⟨h0, D, h1.kept hg hr, h2⟩
theorem KS.below {w w' : World} {B : Nat} {L : List α} (h : KS kt kv w B L) (hb : Below w.heap.size w w') : KS kt kv w' B L :=
  h.kept (r := none) ⟨hb.os, hb.tape, hb.output, hb.size, fun k hk _ => hb.block k hk⟩ (by simp)
theorem KS.wrt {w w' : World} {B : Nat} {L : List α} {f : Fp} (h : KS kt kv w B L) (hw : Wrt f w w') (hn : ¬ f B) : KS kt kv w' B L := by
  have hlt := h.lt
  obtain ⟨h0, D, ⟨es, clock, hb, r⟩, h2⟩ := h
  exact ⟨h0, D, ⟨es, clock, (hw.block B hlt hn).trans hb, r⟩, h2⟩
theorem KS.drewN {w : World} {B : Nat} {L : List α} (h : KS kt kv w B L) (k : Nat) : KS kt kv (w.drewN k) B L := h
theorem ks_made (w : World) : KS kt kv (w.alloc (.map #[] 0)) w.heap.size [] :=
  ⟨List.nodup_nil, .map [], World.ownsMap_made w _ _ _, rfl, fun a kl _ => rfl⟩
theorem KS.look {w : World} {B : Nat} {L : List α} {t e : TypeId} (h : KS kt kv w B L) (K : Keyed Try.prog kt) (ht : Try.prog.underlying t = some (.map kt e)) (hz : (zeroValue e).run Try.prog w = .ok (.agg #[]) w) (a : α) (hk : ∃ kl, keyOf Try.prog kt (kv a) = some kl) :
    (Instr.lookup t (.map (some B)) (kv a) true).run Try.prog w = .ok (.tuple #[.agg #[], .bool (decide (a ∈ L))]) w := by
  obtain ⟨_, D, h1, h2, h3⟩ := h
  obtain ⟨kl, hk⟩ := hk
  obtain ⟨v, ps, hr, hv⟩ := h1.look_ok K ht hz unitElem_mk hk
  obtain ⟨rfl, _⟩ := unitElem_inv hv
  rw [hr, h3 a kl hk]
theorem KS.put {w : World} {B : Nat} {L : List α} {t e : TypeId} (h : KS kt kv w B L) (K : Keyed Try.prog kt) (ht : Try.prog.underlying t = some (.map kt e)) (hinj : ∀ a b, kv a = kv b → a = b) (hL : L.length < maxLen) (a : α) (ha : a ∉ L) (hk : ∃ kl, keyOf Try.prog kt (kv a) = some kl) :
    ∃ w', (Instr.mapUpdate t (.map (some B)) (kv a) (.agg #[])).run Try.prog w = .ok () w' ∧ KS kt kv w' B (a :: L) ∧ w.grownBy w' (some B) := by
  obtain ⟨h0, D, h1, h2, h3⟩ := h
  obtain ⟨kl, hk⟩ := hk
  obtain ⟨w', hr, h4, h5⟩ := h1.update K ht hL hk unitElem_mk
  refine ⟨w', hr, ⟨List.nodup_cons.2 ⟨ha, h0⟩, _, h4, ?_, fun x kl' hk' => ?_⟩, h5⟩
  · rw [Go.Maps.size_put (h1.tidy K), h3 a kl hk, decide_eq_false ha, h2]
    rfl
  · by_cases e : x = a
    · subst e
      rw [hk] at hk'
      cases hk'
      rw [Go.Maps.has_put_same h1.isMap (K.key hk)]
      simp
    · have hne : kl' ≠ kl := fun he => by
        subst he
        exact e (hinj _ _ (K.inj hk' hk))
      rw [Go.Maps.has_put_other hne, h3 x kl' hk']
      simp [e]
theorem KS.len {w : World} {B : Nat} {L : List α} {t e : TypeId} (h : KS kt kv w B L) (ht : Try.prog.underlying t = some (.map kt e)) (ty : TypeId) : (Builtin.len_ #[t] ty #[.map (some B)]).run Try.prog w = .ok (.int .i64 (L.length : Int)) w := by
  obtain ⟨h0, D, h1, h2, h3⟩ := h
  rw [h1.len ht, h2]
end

/-- A pair as a key. -/
def k2V (p : Int × Int) : Value := .agg #[.int .i64 p.1, .int .i64 p.2]
theorem k2V_inj (p q : Int × Int) (h : k2V p = k2V q) : p = q := by
  simp only [k2V, Value.agg.injEq, Array.mk.injEq, List.cons.injEq, Value.int.injEq, true_and, and_true] at h
  exact Prod.ext h.1 h.2
theorem rowH10 : 89 < Try.prog.types.size := Nat.le_of_ble_eq_true (by kernel_rfl)
theorem lawH10 : Keyed Try.prog 89 :=
  Keyed.of_law (deep_law_laid (k := 89) (by kernel_rfl) (m := 5) (by omega) rowH10 (by kernel_rfl) (by kernel_rfl))
theorem lawI10 : Keyed Try.prog 2 := Go.Maps.int_keyed Try.underlying2
theorem lits10 (d : Nat) (a : Int) (wa : (Lit.int .i64 a).wf = true) : Try.prog.keyLits (d + 1) 2 [.int .i64 a] = some [.int .i64 a] := by
  simp [Program.keyLits, Try.underlying2, wa]
theorem litsH10 (d : Nat) (a b : Int) (wa : (Lit.int .i64 a).wf = true) (wb : (Lit.int .i64 b).wf = true) : Try.prog.keyLits (d + 2) 89 [.int .i64 a, .int .i64 b] = some [.int .i64 a, .int .i64 b] := by
  have h2 : Try.prog.cellsOf 89 = 2 := by kernel_rfl
  have h1 : Try.prog.cellsOf 2 = 1 := by kernel_rfl
  unfold Program.keyLits
  rw [Try.underlying89]
  simp [h1, h2, lits10 d _ wa, lits10 d _ wb]
theorem keyH10 (p : Int × Int) (ha : (-9223372036854775808 ≤ p.1 ∧ p.1 ≤ 9223372036854775807)) (hb : (-9223372036854775808 ≤ p.2 ∧ p.2 ≤ 9223372036854775807)) : ∃ kl, keyOf Try.prog 89 (k2V p) = some kl := by
  obtain ⟨a, b⟩ := p
  have hk : Try.prog.keyType 89 = true := by kernel_rfl
  have h2 : Try.prog.cellsOf 89 = 2 := by kernel_rfl
  have wa : (Lit.int .i64 a).wf = true := WalkArith.wf_i64 ha
  have wb : (Lit.int .i64 b).wf = true := WalkArith.wf_i64 hb
  have hf : (k2V (a, b)).formed Try.prog 89 = true := by simp [k2V, Value.formed, Try.underlying89, h2]
  have hc : (k2V (a, b)).cells.toList = [.int .i64 a, .int .i64 b] := rfl
  refine ⟨.string (keyBytes [.int .i64 a, .int .i64 b]), ?_⟩
  unfold keyOf
  rw [Try.underlying89]
  simp only [hk, hf, hc, Bool.and_self, if_true]
  have hs : Try.prog.types.size + 1 = (Try.prog.types.size - 1) + 2 := by have := rowH10; omega
  rw [hs, litsH10 _ a b wa wb]
  rfl
theorem keyI10 (a : Int) (ha : (-9223372036854775808 ≤ a ∧ a ≤ 9223372036854775807)) : ∃ kl, keyOf Try.prog 2 (.int .i64 a) = some kl := by
  have wa : (Lit.int .i64 a).wf = true := WalkArith.wf_i64 ha
  exact ⟨.int .i64 a, by simp [keyOf, mapKey, Try.underlying2, wa]⟩
theorem zeroU10 (w : World) : (zeroValue 106).run Try.prog w = .ok (.agg #[]) w := by kernel_rfl
theorem iV_inj (a b : Int) (h : Value.int .i64 a = Value.int .i64 b) : a = b := by simpa using h
/-- The set of holdings, the set of numbers. -/
abbrev HS (w : World) (B : Nat) (L : List (Int × Int)) : Prop := KS 89 k2V w B L
abbrev NS (w : World) (B : Nat) (L : List Int) : Prop := KS 2 (Value.int .i64) w B L

set_option maxHeartbeats 800000 in
theorem hasH_any (B : Nat) (L : List (Int × Int)) (a b : Int) (w : World) (h : HS w B L) (ha : (-9223372036854775808 ≤ a ∧ a ≤ 9223372036854775807)) (hb : (-9223372036854775808 ≤ b ∧ b ≤ 9223372036854775807)) :
    Calls Try.prog 97 #[.map (some B), .agg #[.int .i64 a, .int .i64 b]] w fun e w' => e = .returned (.bool (decide ((a, b) ∈ L))) ∧ Grew w w' := by
  have hL := (h.below (one_alloc10 w (.cells #[.int .i64 a, .int .i64 b] 89))).look lawH10 Try.underlying81 (zeroU10 _) (a, b) (keyH10 (a, b) ha hb)
  unfold k2V at hL
  clear h
  go_enter Try.func97, Try.ntmps97
  go_wp2
  go_ret
  exact ⟨ret_bool (decide_eq_decide.2 Iff.rfl), ((Grew.refl _).alloc _).alloc _⟩
set_option maxHeartbeats 800000 in
theorem hasI_any (B : Nat) (L : List Int) (a : Int) (w : World) (h : NS w B L) (ha : (-9223372036854775808 ≤ a ∧ a ≤ 9223372036854775807)) :
    Calls Try.prog 105 #[.map (some B), .int .i64 a] w fun e w' => e = .returned (.bool (decide (a ∈ L))) ∧ Grew w w' := by
  have hL := h.look lawI10 Try.underlying104 (zeroU10 _) a (keyI10 a ha)
  clear h
  go_enter Try.func105, Try.ntmps105
  go_wp2
  go_ret
  exact ⟨ret_bool (decide_eq_decide.2 Iff.rfl), (Grew.refl _).alloc _⟩
set_option maxHeartbeats 800000 in
theorem addH_any (B : Nat) (L : List (Int × Int)) (a b : Int) (w : World) (h : HS w B L) (ha : (-9223372036854775808 ≤ a ∧ a ≤ 9223372036854775807)) (hb : (-9223372036854775808 ≤ b ∧ b ≤ 9223372036854775807)) (hl : L.length < 2000000) :
    Calls Try.prog 78 #[.map (some B), .agg #[.int .i64 a, .int .i64 b]] w fun e w' => e = .returned (.bool (!decide ((a, b) ∈ L))) ∧ HS w' B (addL L (a, b)) ∧ w.grownBy w' (some B) := by
  have hb1 : Below w.heap.size w (w.alloc (.cells #[.int .i64 a, .int .i64 b] 89)) := one_alloc10 _ _
  have h1 := h.below hb1
  have c0 : (w.alloc (.cells #[.int .i64 a, .int .i64 b] 89)).cell? ⟨w.heap.size, 0, none⟩ = some (.int .i64 a) := by simp
  have c1 : (w.alloc (.cells #[.int .i64 a, .int .i64 b] 89)).cell? ⟨w.heap.size, 1, none⟩ = some (.int .i64 b) := by simp
  have hBl := h.lt
  have hH := hasH_any B L a b _ h1 ha hb
  have HW : Hid (∀ w', w.alloc (.cells #[.int .i64 a, .int .i64 b] 89) = w' → Below w.heap.size w w') := fun w' e => e ▸ hb1
  generalize hW : w.alloc (.cells #[.int .i64 a, .int .i64 b] 89) = W at *
  by_cases hm : (a, b) ∈ L
  · have HA : Hid (addL L (a, b) = L) := by rw [Hid, addL, if_pos hm]
    rw [decide_eq_true hm] at hH ⊢
    clear hm
    go_enter Try.func78, Try.ntmps78
    go_wp2_with (go_at_call 97; refine hH.mono ?_; rintro e w2 ⟨rfl, hg2⟩)
    go_ret
    have hbb := hb1.trans (hg2.1.mono hb1.size)
    exact ⟨rfl, by rw [HA.out]; exact h1.below hg2.1, ⟨hbb.os, hbb.tape, hbb.output, hbb.size, fun i hi _ => hbb.block i hi⟩⟩
  · have HA : Hid (addL L (a, b) = (a, b) :: L) := by rw [Hid, addL, if_neg hm]
    have HM : Hid ((a, b) ∉ L) := hm
    rw [decide_eq_false hm] at hH ⊢
    clear hm
    go_enter Try.func78, Try.ntmps78
    go_wp2_with (go_at_call 97; refine hH.mono ?_; rintro e w2 ⟨rfl, hg2⟩; have d0 := hg2.cell c0; have d1 := hg2.cell c1; obtain ⟨w3, hr3, hs3, hg3⟩ := (h1.below hg2.1).put lawH10 Try.underlying81 k2V_inj (by unfold maxLen; omega) (a, b) HM.out (keyH10 (a, b) ha hb); unfold k2V at hr3)
    go_ret
    have hbb := hb1.trans (hg2.1.mono hb1.size)
    refine ⟨rfl, by rw [HA.out]; exact hs3, hg3.os.trans hbb.os, hg3.tape.trans hbb.tape, hg3.output.trans hbb.output, Nat.le_trans hbb.size hg3.size, fun i hi hn => (hg3.block i (Nat.lt_of_lt_of_le hi hbb.size) hn).trans (hbb.block i hi)⟩
set_option maxHeartbeats 800000 in
theorem addI_any (B : Nat) (L : List Int) (a : Int) (w : World) (h : NS w B L) (ha : (-9223372036854775808 ≤ a ∧ a ≤ 9223372036854775807)) (hl : L.length < 2000000) :
    Calls Try.prog 99 #[.map (some B), .int .i64 a] w fun e w' => e = .returned (.bool (!decide (a ∈ L))) ∧ NS w' B (addL L a) ∧ w.grownBy w' (some B) := by
  have hH := hasI_any B L a _ h ha
  by_cases hm : a ∈ L
  · have HA : Hid (addL L a = L) := by rw [Hid, addL, if_pos hm]
    rw [decide_eq_true hm] at hH ⊢
    clear hm
    go_enter Try.func99, Try.ntmps99
    go_wp2_with (go_at_call 105; refine hH.mono ?_; rintro e w2 ⟨rfl, hg2⟩)
    go_ret
    have hbb := hg2.1
    exact ⟨rfl, by rw [HA.out]; exact h.below hg2.1, ⟨hbb.os, hbb.tape, hbb.output, hbb.size, fun i hi _ => hbb.block i hi⟩⟩
  · have HA : Hid (addL L a = a :: L) := by rw [Hid, addL, if_neg hm]
    have HM : Hid (a ∉ L) := hm
    rw [decide_eq_false hm] at hH ⊢
    clear hm
    go_enter Try.func99, Try.ntmps99
    go_wp2_with (go_at_call 105; refine hH.mono ?_; rintro e w2 ⟨rfl, hg2⟩; obtain ⟨w3, hr3, hs3, hg3⟩ := (h.below hg2.1).put lawI10 Try.underlying104 iV_inj (by unfold maxLen; omega) a HM.out (keyI10 a ha))
    go_ret
    have hbb := hg2.1
    refine ⟨rfl, by rw [HA.out]; exact hs3, hg3.os.trans hbb.os, hg3.tape.trans hbb.tape, hg3.output.trans hbb.output, Nat.le_trans hbb.size hg3.size, fun i hi hn => (hg3.block i (Nat.lt_of_lt_of_le hi hbb.size) hn).trans (hbb.block i hi)⟩
end Go.Proofs.Ytdniajogojlmdaa

/-
  The program's isWithin, areRelayCounts, risesWithin and RelayOk.
-/
namespace Go.Proofs.Ytdniajogojlmdaa
set_option linter.unusedVariables false
set_option linter.unusedSimpArgs false
open Go.RowKit Go.Sort

set_option maxHeartbeats 400000 in
theorem isWr_any (n last : Int) (w : World) : Calls Try.prog 98 #[.int .i64 n, .int .i64 last] w fun e w' => e = .returned (.bool (inB n 0 last)) ∧ w' = w := by
  by_cases h0 : (0 : Int) ≤ n
  · have H : Hid (inB n 0 last = decide (n ≤ last)) := by rw [Hid, inB]; simp [h0]
    go_enter Try.func98, Try.ntmps98
    go_wp2
    go_ret
    exact ⟨ret_bool (by rw [H.out]), rfl⟩
  · have H : Hid (inB n 0 last = false) := by rw [Hid, inB]; simp [h0]
    go_enter Try.func98, Try.ntmps98
    go_wp2
    go_ret
    exact ⟨ret_bool (by rw [H.out]), rfl⟩
set_option maxHeartbeats 400000 in
theorem arc_any (N B : Int) (w : World) : Calls Try.prog 81 #[.int .i64 N, .int .i64 B] w fun e w' => e = .returned (.bool (inB N 1 12 && inB B 1 12)) ∧ w' = w := by
  by_cases h0 : (1 : Int) ≤ N
  · by_cases h1 : N ≤ 12
    · by_cases h2 : (1 : Int) ≤ B
      · have H : Hid ((inB N 1 12 && inB B 1 12) = decide (B ≤ 12)) := by rw [Hid, inB, inB]; simp [h0, h1, h2]
        go_enter Try.func81, Try.ntmps81
        go_wp2
        go_ret
        exact ⟨ret_bool (by rw [H.out]), rfl⟩
      · have H : Hid ((inB N 1 12 && inB B 1 12) = false) := by rw [Hid, inB, inB]; simp [h2]
        go_enter Try.func81, Try.ntmps81
        go_wp2
        go_ret
        exact ⟨ret_bool (by rw [H.out]), rfl⟩
    · have H : Hid ((inB N 1 12 && inB B 1 12) = false) := by rw [Hid, inB, inB]; simp [h1]
      go_enter Try.func81, Try.ntmps81
      go_wp2
      go_ret
      exact ⟨ret_bool (by rw [H.out]), rfl⟩
  · have H : Hid ((inB N 1 12 && inB B 1 12) = false) := by rw [Hid, inB, inB]; simp [h0]
    go_enter Try.func81, Try.ntmps81
    go_wp2
    go_ret
    exact ⟨ret_bool (by rw [H.out]), rfl⟩

set_option maxHeartbeats 800000 in
theorem rwi_any (a : Option Addr) (len cap : Nat) (B : Int) (xs : List Int) (w : World) (hv : Vec w a len xs) (hm : len ≤ maxLen) :
    Calls Try.prog 86 #[.slice a len cap, .int .i64 (B - 1)] w fun e w' => e = .returned (.bool (decide (okRow B xs))) ∧ w' = w := by
  unfold maxLen at hm
  have HL : Hid (xs.length = len) := hv.1
  have hc := hv.2.2
  clear hv
  go_enter Try.func86, Try.ntmps86
  go_wp2
  go_loop [9] (fun i => ∃ k : Nat, k ≤ len ∧ i = .int .i64 k ∧ (∀ j, j < k → 0 ≤ el xs j ∧ el xs j ≤ B - 1) ∧ ∀ j, j + 1 < k → el xs j < el xs (j + 1)) (fun i => len - (intOf i).toNat)
  case atStart => exact ⟨0, Nat.zero_le _, rfl, fun j hj => by omega, fun j hj => by omega⟩
  case round =>
    obtain ⟨k, hk, rfl, hin, hri⟩ := hrel
    have HI : Hid (∀ j, j < k → 0 ≤ el xs j ∧ el xs j ≤ B - 1) := hin
    have HR : Hid (∀ j, j + 1 < k → el xs j < el xs (j + 1)) := hri
    clear hin hri
    by_cases hlt : k < len
    · rcases hc with h0 | ⟨b, off, rfl, hc⟩
      · omega
      have hck := hc k hlt
      have k0 : (0 : Int) ≤ (k : Int) := by omega
      have k1 : (k : Int) < (len : Int) := by omega
      cases e4 : inB (el xs k) 0 (B - 1) with
      | false =>
        have HF : Hid (decide (okRow B xs) = false) := decide_eq_false (fun h => by
          have := h.1 k (by rw [HL.out]; exact hlt)
          rw [inB7.2 this] at e4
          cases e4)
        go_wp2_with (go_at_call 98; refine (isWr_any _ _ _).mono ?_; rintro e w' ⟨rfl, hw'⟩; rw [hw']; clear hw')
        go_ret
        exact ⟨ret_bool (by rw [HF.out]), rfl⟩
      | true =>
        have HX : Hid (0 ≤ el xs k ∧ el xs k ≤ B - 1) := inB7.1 e4
        by_cases hk0 : 0 < k
        · obtain ⟨q, rfl⟩ : ∃ q, k = q + 1 := ⟨k - 1, by omega⟩
          have hcq := hc q (by omega)
          have hg : decide (((q + 1 : Nat) : Int) > 0) = true := decide_eq_true (by omega)
          have g0 : (0 : Int) < ((q + 1 : Nat) : Int) := by omega
          have hq : wrap64 (((q + 1 : Nat) : Int) - 1) = (q : Int) := by unfold wrap64; omega
          have q0 : (0 : Int) ≤ (q : Int) := by omega
          have q1 : (q : Int) < (len : Int) := by omega
          by_cases hx : el xs q < el xs (q + 1)
          · have hd : decide (el xs (q + 1) ≤ el xs q) = false := by simp; omega
            have HY : Hid (el xs q < el xs (q + 1)) := hx
            clear hx
            go_wp2_with (go_at_call 98; refine (isWr_any _ _ _).mono ?_; rintro e w' ⟨rfl, hw'⟩; rw [hw']; clear hw')
            go_round
            case rel => exact ⟨q + 1 + 1, by omega, by go_num, fun j hj => by
              rcases Nat.lt_succ_iff_lt_or_eq.1 hj with h | h
              · exact HI.out j h
              · rw [h]; exact HX.out, fun j hj => by
              rcases Nat.lt_succ_iff_lt_or_eq.1 hj with h | h
              · exact HR.out j h
              · have : j = q := by omega
                rw [this]; exact HY.out⟩
            case measure => simp [intOf]; omega
          · have hd : decide (el xs (q + 1) ≤ el xs q) = true := by simp; omega
            have HF : Hid (decide (okRow B xs) = false) := decide_eq_false (fun h => hx (h.2 q (by rw [HL.out]; omega)))
            clear hx
            go_wp2_with (go_at_call 98; refine (isWr_any _ _ _).mono ?_; rintro e w' ⟨rfl, hw'⟩; rw [hw']; clear hw')
            go_ret
            exact ⟨ret_bool (by rw [HF.out]), rfl⟩
        · obtain rfl : k = 0 := by omega
          rw [Nat.add_zero] at hck
          go_wp2_with (go_at_call 98; refine (isWr_any _ _ _).mono ?_; rintro e w' ⟨rfl, hw'⟩; rw [hw']; clear hw')
          go_round
          case rel => exact ⟨1, by omega, by go_num, fun j hj => by
            obtain rfl : j = 0 := by omega
            exact HX.out, fun j hj => by omega⟩
          case measure => simp [intOf]; omega
    · have hkl : k = len := by omega
      have HF : Hid (decide (okRow B xs) = true) := decide_eq_true ⟨fun j hj => HI.out j (by rw [HL.out] at hj; omega), fun j hj => HR.out j (by rw [HL.out] at hj; omega)⟩
      subst hkl
      clear hc
      go_wp2
      go_ret
      exact ⟨ret_bool (by rw [HF.out]), rfl⟩

set_option maxRecDepth 100000 in
set_option maxHeartbeats 3200000 in
theorem rokI_any (N B : Int) (a : Option Addr) (len cap : Nat) (H : List (List Int)) (w : World) (hv : VV w a len cap H) :
    Calls Try.prog 41 #[rlV N B a len cap] w fun e w' => e = .returned (.bool (decide (okRel N B H))) ∧ Grew w w' := by
  unfold rlV
  have hG0 : Grew w (w.alloc (.cells #[.int .i64 N, .int .i64 B, .slice a len cap] 35)) := (Grew.refl _).alloc _
  have hvW := hv.grew hG0
  have hmx : len ≤ maxLen := Nat.le_trans hv.le hv.mx
  unfold maxLen at hmx
  have hHl := hv.n
  have c0 : (w.alloc (.cells #[.int .i64 N, .int .i64 B, .slice a len cap] 35)).cell? ⟨w.heap.size, 0, none⟩ = some (.int .i64 N) := by simp
  have c1 : (w.alloc (.cells #[.int .i64 N, .int .i64 B, .slice a len cap] 35)).cell? ⟨w.heap.size, 1, none⟩ = some (.int .i64 B) := by simp
  have c2 : (w.alloc (.cells #[.int .i64 N, .int .i64 B, .slice a len cap] 35)).cell? ⟨w.heap.size, 2, none⟩ = some (.slice a len cap) := by simp
  have HF : Hid (∀ (P : Prop), (okRel N B H → P) → ¬ P → decide (okRel N B H) = false) := fun P h hn => decide_eq_false (fun k => hn (h k))
  have HG : Hid (Grew w (w.alloc (.cells #[.int .i64 N, .int .i64 B, .slice a len cap] 35))) := hG0
  clear hv hG0
  generalize hW0 : w.alloc (.cells #[.int .i64 N, .int .i64 B, .slice a len cap] 35) = W0 at *
  cases e0 : (inB N 1 12 && inB B 1 12) with
  | false =>
    have HZ : Hid (decide (okRel N B H) = false) := HF.out _ (fun k => (by rw [inB7.2 k.1, inB7.2 k.2.1]; rfl : (inB N 1 12 && inB B 1 12) = true)) (by rw [e0]; simp)
    clear hvW HF
    go_enter Try.func41, Try.ntmps41
    go_wp2_with (go_at_call 81; refine (arc_any _ _ _).mono ?_; rintro e w' ⟨rfl, hw'⟩; rw [hw']; clear hw')
    go_ret
    exact ⟨ret_bool (by rw [HZ.out]), HG.out⟩
  | true =>
    have b0 := inB7.1 (Bool.and_eq_true_iff.1 e0).1
    have b1 := inB7.1 (Bool.and_eq_true_iff.1 e0).2
    by_cases e2 : (len : Int) = N
    · have hrow0 := hvW.row
      obtain ⟨b, off, x0, q0, rfl, d0, v0, l0, m0⟩ := hvW.row 0 (by omega)
      have e2' : ((len : Int) != N) = false := by simpa using e2
      have hl1 : (0 : Int) < (len : Int) := by omega
      have hl1n : 0 < len := by omega
      rw [Nat.add_zero] at d0
      have hrow : Hid (∀ i, i < len → ∃ x c, W0.cell? ⟨b, off + i, none⟩ = some (.slice x (row H i).length c) ∧ Vec W0 x (row H i).length (row H i) ∧ (row H i).length ≤ maxLen) := fun i hi => by
        obtain ⟨b', off', x, c, e, h1, h2, h3, h4⟩ := hrow0 i hi
        cases e
        exact ⟨x, c, h1, h2, Nat.le_trans h3 h4⟩
      have HT : Hid ((∀ i, i < len → okRow B (row H i)) → decide (okRel N B H) = (((row H 0).length : Int) == B)) := fun h => by
        by_cases e3 : ((row H 0).length : Int) = B
        · rw [decide_eq_true (show okRel N B H from ⟨b0, b1, by rw [hHl]; exact e2, e3, fun i hi => h i (by omega)⟩)]
          simp [e3]
        · rw [HF.out _ (fun k => k.2.2.2.1) e3]
          simp [e3]
      have HN : Hid (∀ i, i < len → ¬ okRow B (row H i) → decide (okRel N B H) = false) := fun i hi h => HF.out _ (fun k => k.2.2.2.2 i (by omega)) h
      have hl12 : len ≤ 12 := by omega
      have hB1 : wrap64 (B - 1) = B - 1 := by unfold wrap64; omega
      have hq0 : (row H 0).length ≤ 9223372036854775807 := by unfold maxLen at m0; omega
      clear hvW HF hrow0 v0
      go_enter Try.func41, Try.ntmps41
      go_wp2_with (go_at_call 81; refine (arc_any _ _ _).mono ?_; rintro e w' ⟨rfl, hw'⟩; rw [hw']; clear hw')
      clear e0
      go_loop [22] (fun i => ∃ k : Nat, k ≤ len ∧ i = .int .i64 k ∧ ∀ j, j < k → okRow B (row H j)) (fun i => len - (intOf i).toNat)
      case atStart => exact ⟨0, Nat.zero_le _, rfl, fun j hj => by omega⟩
      case round =>
        obtain ⟨k, hk, rfl, hall⟩ := hrel
        have HA : Hid (∀ j, j < k → okRow B (row H j)) := hall
        clear hall
        by_cases hlt : k < len
        · obtain ⟨x, c, hcx, hvx, hmx2⟩ := hrow.out k hlt
          have hR := rwi_any x _ c B _ W0 hvx hmx2
          have k1 : (k : Int) < (len : Int) := by omega
          have k0 : (0 : Int) ≤ (k : Int) := by omega
          by_cases hok : okRow B (row H k)
          · rw [decide_eq_true hok] at hR
            have HO : Hid (∀ j, j < k + 1 → okRow B (row H j)) := fun j hj => by
              rcases Nat.lt_succ_iff_lt_or_eq.1 hj with h1 | h1
              · exact HA.out j h1
              · rw [h1]; exact hok
            clear hok hvx
            go_wp2_with (go_at_call 86; refine hR.mono ?_; rintro e w' ⟨rfl, hw'⟩; rw [hw']; clear hw')
            go_round
            case rel => exact ⟨k + 1, by omega, by go_num, HO.out⟩
            case measure => simp [intOf]; omega
          · rw [decide_eq_false hok] at hR
            have HZ : Hid (decide (okRel N B H) = false) := HN.out k hlt hok
            clear hok hvx
            go_wp2_with (go_at_call 86; refine hR.mono ?_; rintro e w' ⟨rfl, hw'⟩; rw [hw']; clear hw')
            go_ret
            exact ⟨ret_bool (by rw [HZ.out]), HG.out⟩
        · have HZ : Hid (decide (okRel N B H) = (((row H 0).length : Int) == B)) := HT.out (fun i hi => HA.out i (by omega))
          have hkl : k = len := by omega
          subst hkl
          go_wp2_with fail
          go_quiet (fail)
          go_wp2
          go_ret
          exact ⟨ret_bool (by rw [HZ.out]), HG.out.drewN _⟩
    · have e2' : ((len : Int) != N) = true := by simpa using e2
      have HZ : Hid (decide (okRel N B H) = false) := HF.out _ (fun k => k.2.2.1) (by rw [hHl]; exact e2)
      clear hvW HF
      go_enter Try.func41, Try.ntmps41
      go_wp2_with (go_at_call 81; refine (arc_any _ _ _).mono ?_; rintro e w' ⟨rfl, hw'⟩; rw [hw']; clear hw')
      go_ret
      exact ⟨ret_bool (by rw [HZ.out]), HG.out⟩
end Go.Proofs.Ytdniajogojlmdaa
