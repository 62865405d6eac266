/-
  Several texts in one: Jlp Jgo.
-/
import Derived.Test.YtbnpliobigjapaaDoorKv
import Derived.Test.YtbnpliobigjapaaDoorGb
import Derived.WalkMore
/-
  The line of a frame, digit by digit: what number stands ahead of the first blank, if one does. Plain lists alone.
-/
namespace Go.Proofs.YtbnpliobigjapaaDoor
set_option linter.unusedVariables false
set_option linter.unusedSimpArgs false

/-- A version and a text stand in this line. -/
def EntB (t : List UInt8) : Prop := (rdL (upto 32 t)).2 = true ∧ (upto 32 t).length < t.length ∧ 1 ≤ (rdL (upto 32 t)).1
instance (t : List UInt8) : Decidable (EntB t) := by unfold EntB; infer_instance
def entL (t : List UInt8) : Int × List UInt8 × Bool := if EntB t then ((rdL (upto 32 t)).1, t.drop ((upto 32 t).length + 1), true) else (0, [], false)
theorem recStep_yes {l : Lg} {t : List UInt8} (h : EntB t) : recStep l t = addLg l (entL t).1 (entL t).2.1 := by
  unfold recStep entL
  rw [if_pos h, if_pos ⟨h.1, h.2.1⟩]
theorem recStep_not {l : Lg} {t : List UInt8} (hl : okLg l) (h : ¬ EntB t) : recStep l t = (l, false) := by
  unfold recStep
  split
  · rename_i h1
    rw [addLg, if_pos hl, if_neg]
    intro h2
    have h3 := h2.1
    have h4 := hl.1
    exact h ⟨h1.1, h1.2, by omega⟩
  · rfl
theorem rdL_neg {s : List UInt8} (h : negB s = true) : (rdL s).1 ≤ 0 := by
  unfold rdL
  rw [h]
  split
  · exact Int.le_refl _
  split
  · exact Int.le_refl _
  split
  · exact Int.le_refl _
  · simp
theorem rdL_no {s : List UInt8} (h : negB s = false) (h2 : 9 < s.length ∨ ∃ x ∈ s, digB x = false) : (rdL s).2 = false := by
  have hb : bodyL s = s := by unfold bodyL; rw [h]; rfl
  unfold rdL
  rw [hb]
  rcases h2 with h2 | ⟨x, hx, hd⟩
  · rw [if_pos (.inr h2)]
  · split
    · rfl
    · rw [if_pos]
      rw [List.all_eq_false]
      exact ⟨x, hx, by simp [hd]⟩
theorem rdL_nought {s : List UInt8} (h : s.head? = some 48) : ¬ ((rdL s).2 = true ∧ 1 ≤ (rdL s).1) := by
  have hn : negB s = false := by unfold negB; rw [h]; rfl
  have hb : bodyL s = s := by unfold bodyL; rw [hn]; rfl
  unfold rdL
  rw [hb, hn]
  split
  · simp
  split
  · simp
  split
  · simp
  · rename_i h1 h2 h3
    have hl : s.length = 1 := by
      rcases Nat.lt_or_ge 1 s.length with h4 | h4
      · exact absurd ⟨h, .inr h4⟩ h3
      · omega
    obtain ⟨x, rfl⟩ := List.length_eq_one_iff.1 hl
    simp only [List.head?_cons, Option.some.injEq] at h
    subst h
    simp [numL]
theorem ent_nil : ¬ EntB [] := fun h => by have := h.2.1; simp [upto] at this
theorem ent_first {t : List UInt8} (h : byt t 0 = 48 ∨ ¬ (48 ≤ byt t 0 ∧ byt t 0 ≤ 57)) : ¬ EntB t := by
  cases t with
  | nil => exact ent_nil
  | cons x l =>
    simp only [byt, List.getD_cons_zero] at h
    rintro ⟨h1, h2, h3⟩
    by_cases hx : x = 32
    · subst hx
      simp [upto, rdL, bodyL, negB] at h1
    · have hu : upto 32 (x :: l) = x :: upto 32 l := by rw [upto, if_neg hx]
      rw [hu] at h1 h2 h3
      by_cases h45 : x = 45
      · have := rdL_neg (s := x :: upto 32 l) (by rw [h45]; rfl)
        omega
      · have hn : negB (x :: upto 32 l) = false := by simp [negB, h45]
        rcases h with h | h
        · have hx48 : x = 48 := UInt8.toNat_inj.1 (by rw [h]; rfl)
          exact rdL_nought (s := x :: upto 32 l) (by rw [hx48]; rfl) ⟨h1, h3⟩
        · rw [rdL_no hn (.inr ⟨x, by simp, by simp [digB]; omega⟩)] at h1
          cases h1
/-- The first k bytes are digits, the first of them no nought. -/
def Dg (t : List UInt8) (k : Nat) : Prop := 1 ≤ k ∧ k ≤ 9 ∧ k ≤ t.length ∧ byt t 0 ≠ 48 ∧ ∀ i, i < k → 48 ≤ byt t i ∧ byt t i ≤ 57
theorem Dg.one {t : List UInt8} (h : 0 < t.length) (h0 : byt t 0 ≠ 48) (hd : 48 ≤ byt t 0 ∧ byt t 0 ≤ 57) : Dg t 1 :=
  ⟨by omega, by omega, h, h0, fun i hi => by have : i = 0 := by omega
                                             rw [this]; exact hd⟩
theorem Dg.more {t : List UInt8} {k : Nat} (h : Dg t k) (hk : k < 9) (hl : k < t.length) (hd : 48 ≤ byt t k ∧ byt t k ≤ 57) : Dg t (k + 1) :=
  ⟨by omega, by omega, hl, h.2.2.2.1, fun i hi => by
    rcases Nat.lt_succ_iff_lt_or_eq.1 hi with h1 | h1
    · exact h.2.2.2.2 i h1
    · rw [h1]; exact hd⟩
theorem mem_byt {t : List UInt8} {k : Nat} {x : UInt8} (hx : x ∈ t.take k) : ∃ i, i < k ∧ i < t.length ∧ x.toNat = byt t i := by
  obtain ⟨i, hi, rfl⟩ := List.getElem_of_mem hx
  rw [List.length_take] at hi
  refine ⟨i, by omega, by omega, ?_⟩
  rw [byt_get (by omega), List.getElem_take]
theorem Dg.mem {t : List UInt8} {k : Nat} (h : Dg t k) {x : UInt8} (hx : x ∈ t.take k) : 48 ≤ x.toNat ∧ x.toNat ≤ 57 := by
  obtain ⟨i, hi, _, e⟩ := mem_byt hx
  rw [e]
  exact h.2.2.2.2 i hi
theorem Dg.no32 {t : List UInt8} {k : Nat} (h : Dg t k) : ∀ x ∈ t.take k, x ≠ 32 := fun x hx e => by
  have := h.mem hx
  subst e
  simp at this
theorem Dg.all {t : List UInt8} {k : Nat} (h : Dg t k) : (t.take k).all digB = true := by
  rw [List.all_eq_true]
  intro x hx
  have := h.mem hx
  simp [digB, this.1, this.2]
theorem Dg.num {t : List UInt8} {k : Nat} (h : Dg t k) : numL (t.take k) < 10 ^ k := numL_bound _ h.all (by rw [List.length_take]; omega)
theorem Dg.num9 {t : List UInt8} {k : Nat} (h : Dg t k) : numL (t.take k) < 1000000000 := numL_bound (k := 9) _ h.all (by rw [List.length_take]; have := h.2.1; omega)
theorem Dg.more9 {t : List UInt8} {k : Nat} (h : Dg t k) (hk : k < 9) : numL (t.take k) < 100000000 := numL_bound (k := 8) _ h.all (by rw [List.length_take]; omega)
theorem numL_take {t : List UInt8} {k : Nat} (hk : k < t.length) : numL (t.take (k + 1)) = numL (t.take k) * 10 + (byt t k - 48) := by
  rw [take_byte hk, numL_snoc, byt_get hk]
theorem upto_long {t : List UInt8} {k : Nat} (h : ∀ x ∈ t.take k, x ≠ 32) : t.take k <+: upto 32 t := by
  induction t generalizing k with
  | nil => simp
  | cons x l ih =>
    cases k with
    | zero => simp
    | succ k =>
      rw [List.take_succ_cons] at h ⊢
      rw [upto, if_neg (h x (by simp))]
      exact List.cons_prefix_cons.2 ⟨rfl, ih (fun y hy => h y (by simp [hy]))⟩
theorem Dg.neg {t u : List UInt8} {k : Nat} (h : Dg t k) (hu : t.take k <+: u) : negB u = false := by
  obtain ⟨r, rfl⟩ := hu
  obtain ⟨h1, _, h3, _, h5⟩ := h
  cases t with
  | nil => simp at h3; omega
  | cons x l =>
    cases k with
    | zero => omega
    | succ k =>
      have := h5 0 (by omega)
      simp only [byt, List.getD_cons_zero] at this
      simp only [List.take_succ_cons, List.cons_append, negB, List.head?_cons, Option.some.injEq, decide_eq_false_iff_not]
      rintro rfl
      simp at this
theorem Dg.end_ {t : List UInt8} {k : Nat} (h : Dg t k) (hk : k = t.length) : ¬ EntB t := by
  intro he
  have h2 := he.2.1
  have := h.no32
  rw [hk, List.take_length] at this
  rw [upto_none this] at h2
  omega
theorem Dg.blank {t : List UInt8} {k : Nat} (h : Dg t k) (hk : k < t.length) (hb : byt t k = 32) : entL t = (((numL (t.take k) : Nat) : Int), t.drop (k + 1), true) := by
  have e : t = t.take k ++ 32 :: t.drop (k + 1) := by
    have e1 : t[k] = 32 := UInt8.toNat_inj.1 (by rw [← byt_get hk, hb]; rfl)
    rw [← e1, ← List.drop_eq_getElem_cons hk, List.take_append_drop]
  have hl : (t.take k).length = k := by rw [List.length_take]; omega
  have hu : upto 32 t = t.take k := by
    conv => lhs; rw [e]
    exact upto_at h.no32 _
  have hn : negB (t.take k) = false := h.neg List.prefix_rfl
  have hbd : bodyL (t.take k) = t.take k := by unfold bodyL; rw [hn]; rfl
  obtain ⟨h1, h2, h3, h4, h5⟩ := h
  have hr : rdL (t.take k) = (((numL (t.take k) : Nat) : Int), true) := by
    unfold rdL
    rw [hbd, hn, if_neg (by omega), if_neg (by rw [Dg.all ⟨h1, h2, h3, h4, h5⟩]; simp), if_neg]
    · simp
    · rintro ⟨h6, _⟩
      rw [head_byt (by omega)] at h6
      apply h4
      have h7 : byt (t.take k) 0 = byt t 0 := by
        rw [byt_get (by omega), byt_get (by omega), List.getElem_take]
      rw [← h7, h6]
      rfl
  have hp : 1 ≤ numL (t.take k) := by
    have hx := h5 0 (by omega)
    have hm : ∀ j, 1 ≤ j → j ≤ k → 1 ≤ numL (t.take j) := by
      intro j
      induction j with
      | zero => intro h; omega
      | succ j ih =>
        intro _ hj
        rw [numL_take (by omega)]
        rcases Nat.eq_zero_or_pos j with h0 | h0
        · rw [h0]; omega
        · have := ih h0 (by omega); omega
    exact hm k h1 (Nat.le_refl _)
  have he : EntB t := by
    unfold EntB
    rw [hu, hr]
    exact ⟨rfl, by omega, by simp only; omega⟩
  rw [entL, if_pos he, hu, hr, hl]
theorem Dg.other {t : List UInt8} {k : Nat} (h : Dg t k) (hk : k < t.length) (hb : byt t k ≠ 32) (hd : ¬ (48 ≤ byt t k ∧ byt t k ≤ 57)) : ¬ EntB t := by
  intro he
  have h3 : ∀ x ∈ t.take (k + 1), x ≠ 32 := by
    intro x hx e
    rw [take_byte hk] at hx
    rcases List.mem_append.1 hx with h1 | h1
    · exact h.no32 x h1 e
    · rw [List.mem_singleton] at h1
      apply hb
      rw [byt_get hk, ← h1, e]
      rfl
  have hp := upto_long h3
  have h4 : t[k] ∈ upto 32 t := hp.subset (by have := take_byte hk; rw [this]; exact List.mem_append_right _ (List.mem_singleton.2 rfl))
  have := rdL_no (s := upto 32 t) (h.neg (upto_long h.no32)) (.inr ⟨_, h4, by rw [byt_get hk] at hd; simp [digB]; omega⟩)
  rw [he.1] at this
  cases this
theorem Dg.ten {t : List UInt8} (h : Dg t 9) (hk : 9 < t.length) (hb : 48 ≤ byt t 9 ∧ byt t 9 ≤ 57) : ¬ EntB t := by
  intro he
  have h3 : ∀ x ∈ t.take 10, x ≠ 32 := by
    intro x hx e
    rw [take_byte hk] at hx
    rcases List.mem_append.1 hx with h1 | h1
    · exact h.no32 x h1 e
    · rw [List.mem_singleton] at h1
      rw [byt_get hk, ← h1, e] at hb
      simp at hb
  have hl := (upto_long h3).length_le
  rw [List.length_take] at hl
  have := rdL_no (s := upto 32 t) (h.neg (upto_long h.no32)) (.inl (by omega))
  rw [he.1] at this
  cases this
theorem entL_no {t : List UInt8} (h : ¬ EntB t) : entL t = (0, [], false) := by rw [entL, if_neg h]
end Go.Proofs.YtbnpliobigjapaaDoor

/-
  A scope in which the run jumps, to and fro, to whatever of its labels: what holds at each label, and a measure that every pass lowers.
-/
namespace Go.Proofs.YtbnpliobigjapaaDoor
set_option linter.unusedVariables false
/-- As Q; by a goto to a label: J of that label. -/
def Jumps (J : Nat → Act → World → Prop) (Q : Exit → Act → World → Prop) : Exit → Act → World → Prop
  | .goto l, a, w => J l a w
  | e, a, w => Q e a w
@[go_sem] theorem Jumps.normal {J : Nat → Act → World → Prop} {Q : Exit → Act → World → Prop} {a : Act} {w : World} : Jumps J Q .normal a w = Q .normal a w := rfl
@[go_sem] theorem Jumps.exit {J : Nat → Act → World → Prop} {Q : Exit → Act → World → Prop} {a : Act} {w : World} (id : Nat) : Jumps J Q (.exit id) a w = Q (.exit id) a w := rfl
@[go_sem] theorem Jumps.ret {J : Nat → Act → World → Prop} {Q : Exit → Act → World → Prop} {a : Act} {w : World} : Jumps J Q .ret a w = Q .ret a w := rfl
@[go_sem] theorem Jumps.goto {J : Nat → Act → World → Prop} {Q : Exit → Act → World → Prop} {a : Act} {w : World} (l : Nat) : Jumps J Q (.goto l) a w = J l a w := rfl
theorem wp_scope_many {P : Program} {a : Act} {w : World} {Q : Exit → Act → World → Prop} {c : Code} (J : Nat → Act → World → Prop) (μ : Nat → Act → World → Nat) (hf : ∀ l a w, J l a w → ∃ r, findLabel c l = some r)
    (first : c.wp P (Jumps J Q) a w)
    (pass : ∀ l a w, J l a w → ∀ r, findLabel c l = some r → r.wp P (Jumps (fun l' a' w' => J l' a' w' ∧ μ l' a' w' < μ l a w) Q) a w) : (Code.scope c).wp P Q a w := by
  intro b k cs
  have hg : ∀ l r, findLabel c l = some r → gotoIn l (.inScope c :: k) = some (.code r :: .inScope c :: k) := fun l r h => by simp [gotoIn, h]
  have key : ∀ n l a w, μ l a w = n → J l a w → ∀ r, findLabel c l = some r → ∃ e a' w', Q e a' w' ∧ Arrives P (lone (b.at a (.code r :: .inScope c :: k)) cs w) b k cs e a' w' := by
    intro n
    induction n using Nat.strongRecOn with
    | _ n ih =>
      intro l a w hn hJ r hr
      obtain ⟨e, a₁, w₁, hq, harr⟩ := pass l a w hJ r hr b (.inScope c :: k) cs
      cases e with
      | normal => exact ⟨.normal, a₁, w₁, hq, Steps.trans harr (.one step_inScope)⟩
      | exit id => exact ⟨.exit id, a₁, w₁, hq, fun k' hk => harr k' (by simp [exitTo, hk])⟩
      | goto l' =>
        obtain ⟨hJ', hlt⟩ := hq
        obtain ⟨r', hr'⟩ := hf l' a₁ w₁ hJ'
        obtain ⟨e₂, a₂, w₂, hq₂, harr₂⟩ := ih _ (by omega) l' a₁ w₁ rfl hJ' r' hr'
        exact ⟨e₂, a₂, w₂, hq₂, .of_steps (harr _ (hg _ _ hr')) harr₂⟩
      | ret => exact ⟨_, a₁, w₁, hq, harr⟩
      | panic ch => exact ⟨_, a₁, w₁, hq, harr⟩
      | outgrown => exact ⟨_, a₁, w₁, hq, harr⟩
  obtain ⟨e, a₁, w₁, hq, harr⟩ := first b (.inScope c :: k) cs
  cases e with
  | normal => exact ⟨.normal, a₁, w₁, hq, .head step_scope (Steps.trans harr (.one step_inScope))⟩
  | exit id => exact ⟨.exit id, a₁, w₁, hq, fun k' hk => .head step_scope (harr k' (by simp [exitTo, hk]))⟩
  | goto l' =>
    obtain ⟨r', hr'⟩ := hf l' a₁ w₁ hq
    obtain ⟨e₂, a₂, w₂, hq₂, harr₂⟩ := key _ l' a₁ w₁ rfl hq r' hr'
    exact ⟨e₂, a₂, w₂, hq₂, .of_steps (.head step_scope (harr _ (hg _ _ hr'))) harr₂⟩
  | ret => exact ⟨_, a₁, w₁, hq, .of_steps (.one step_scope) harr⟩
  | panic ch => exact ⟨_, a₁, w₁, hq, .of_steps (.one step_scope) harr⟩
  | outgrown => exact ⟨_, a₁, w₁, hq, .of_steps (.one step_scope) harr⟩
/-- One label to which the run comes back, two at which it ends. -/
theorem wp_scope3 {P : Program} {a : Act} {w : World} {Q : Exit → Act → World → Prop} {c r0 r1 r2 : Code} (l0 l1 l2 : Nat) (J0 J1 J2 : Act → World → Prop) (μ : Act → World → Nat) (hf0 : findLabel c l0 = some (.seq .skip r0)) (hf1 : findLabel c l1 = some (.seq .skip r1)) (hf2 : findLabel c l2 = some (.seq .skip r2)) (hne : (l0 ≠ l1 ∧ l0 ≠ l2) ∧ l1 ≠ l2)
    (pass1 : ∀ a w, J1 a w → r1.wp P (Jumps (fun _ _ _ => False) Q) a w) (pass2 : ∀ a w, J2 a w → r2.wp P (Jumps (fun _ _ _ => False) Q) a w)
    (pass0 : ∀ a w, J0 a w → r0.wp P (Jumps (fun l a' w' => (l = l0 ∧ J0 a' w' ∧ μ a' w' < μ a w) ∨ (l = l1 ∧ J1 a' w') ∨ (l = l2 ∧ J2 a' w')) Q) a w)
    (first : (∀ a w, J0 a w → r0.wp P (Jumps (fun l a' w' => (l = l0 ∧ J0 a' w') ∨ (l = l1 ∧ J1 a' w') ∨ (l = l2 ∧ J2 a' w')) Q) a w) → c.wp P (Jumps (fun l a' w' => (l = l0 ∧ J0 a' w') ∨ (l = l1 ∧ J1 a' w') ∨ (l = l2 ∧ J2 a' w')) Q) a w) : (Code.scope c).wp P Q a w := by
  obtain ⟨⟨n1, n2⟩, n3⟩ := hne
  have mono : ∀ {c : Code} {a : Act} {w : World} {J K : Nat → Act → World → Prop}, (∀ l a w, J l a w → K l a w) → c.wp P (Jumps J Q) a w → c.wp P (Jumps K Q) a w := by
    intro c a w J K h hc
    refine wp_mono hc (fun e a' w' he => ?_)
    cases e with
    | goto l => exact h l a' w' he
    | normal => exact he
    | exit id => exact he
    | ret => exact he
    | panic ch => exact he
    | outgrown => exact he
  have skp : ∀ {c : Code} {a : Act} {w : World} {J : Nat → Act → World → Prop}, c.wp P (Jumps J Q) a w → (Code.seq .skip c).wp P (Jumps J Q) a w := fun h => wp_seq (wp_skip h)
  refine wp_scope_many (fun l a' w' => (l = l0 ∧ J0 a' w') ∨ (l = l1 ∧ J1 a' w') ∨ (l = l2 ∧ J2 a' w')) (fun l a' w' => if l = l0 then μ a' w' + 1 else 0) ?_ ?_ ?_
  · rintro l a' w' (⟨rfl, _⟩ | ⟨rfl, _⟩ | ⟨rfl, _⟩)
    · exact ⟨_, hf0⟩
    · exact ⟨_, hf1⟩
    · exact ⟨_, hf2⟩
  · refine first (fun a' w' h => mono ?_ (pass0 a' w' h))
    rintro l a' w' (⟨h1, h2, _⟩ | h | h)
    · exact .inl ⟨h1, h2⟩
    · exact .inr (.inl h)
    · exact .inr (.inr h)
  · rintro l a' w' (⟨rfl, hJ⟩ | ⟨rfl, hJ⟩ | ⟨rfl, hJ⟩) r hr
    · obtain rfl := Option.some.inj (hf0.symm.trans hr)
      refine mono ?_ (skp (pass0 a' w' hJ))
      rintro l' a2 w2 (⟨rfl, h2, h3⟩ | ⟨rfl, h⟩ | ⟨rfl, h⟩)
      · exact ⟨.inl ⟨rfl, h2⟩, by simp; exact h3⟩
      · exact ⟨.inr (.inl ⟨rfl, h⟩), by simp [Ne.symm n1]⟩
      · exact ⟨.inr (.inr ⟨rfl, h⟩), by simp [Ne.symm n2]⟩
    · obtain rfl := Option.some.inj (hf1.symm.trans hr)
      exact mono (fun _ _ _ h => absurd h id) (skp (pass1 a' w' hJ))
    · obtain rfl := Option.some.inj (hf2.symm.trans hr)
      exact mono (fun _ _ _ h => absurd h id) (skp (pass2 a' w' hJ))
end Go.Proofs.YtbnpliobigjapaaDoor
