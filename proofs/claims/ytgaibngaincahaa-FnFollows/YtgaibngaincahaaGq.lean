/-
  Several texts in one: Frm Str.
-/
import Derived.Test.YtgaibngaincahaaGb
import Derived.Deep.LoopGhost
import Derived.Laws.IdiomStrings
/-
  Numbers in digits, checks, frames and disks as plain lists of bytes. No word of the model.
-/
namespace Go.Proofs.Ytgaibngaincahaa
set_option linter.unusedVariables false

/-- The digit d as a byte. -/
def dig (d : Nat) : UInt8 := UInt8.ofNat (48 + d)
theorem dig_val {d : Nat} (h : d < 10) : (dig d).toNat = 48 + d := by
  unfold dig
  rw [UInt8.toNat_ofNat']
  omega
/-- n in decimal digits. -/
def dec (n : Nat) : List UInt8 := if h : n < 10 then [dig n] else dec (n / 10) ++ [dig (n % 10)]
termination_by n
decreasing_by omega
theorem dec_small {n : Nat} (h : n < 10) : dec n = [dig n] := by unfold dec; rw [dif_pos h]
theorem dec_big {n : Nat} (h : ¬ n < 10) : dec n = dec (n / 10) ++ [dig (n % 10)] := by rw [dec, dif_neg h]
theorem dec_ne (n : Nat) : dec n ≠ [] := by
  by_cases h : n < 10
  · rw [dec_small h]; simp
  · rw [dec_big h]; simp
/-- The digits with what stands behind them. -/
def decT (n : Nat) (s : List UInt8) : List UInt8 := if n = 0 then s else dec n ++ s
theorem decT_step {n : Nat} (s : List UInt8) : decT (n / 10) (dig (n % 10) :: s) = dec n ++ s := by
  unfold decT
  by_cases h : n < 10
  · rw [if_pos (by omega), dec_small h, Nat.mod_eq_of_lt h]; rfl
  · rw [if_neg (by omega), dec_big h]; simp
def isDig (b : UInt8) : Prop := 48 ≤ b.toNat ∧ b.toNat ≤ 57
theorem dec_dig (n : Nat) : ∀ b ∈ dec n, isDig b := by
  induction n using Nat.strongRecOn with
  | ind n ih =>
    intro b hb
    by_cases h : n < 10
    · rw [dec_small h, List.mem_singleton] at hb
      subst hb
      unfold isDig
      rw [dig_val h]
      omega
    · rw [dec_big h, List.mem_append, List.mem_singleton] at hb
      rcases hb with hb | hb
      · exact ih (n / 10) (by omega) b hb
      · subst hb
        unfold isDig
        rw [dig_val (by omega)]
        omega
/-- The number that digits tell. -/
def numL (l : List UInt8) : Nat := l.foldl (fun n b => n * 10 + (b.toNat - 48)) 0
theorem numL_snoc (l : List UInt8) (b : UInt8) : numL (l ++ [b]) = numL l * 10 + (b.toNat - 48) := by simp [numL]
theorem numL_dec (n : Nat) : numL (dec n) = n := by
  induction n using Nat.strongRecOn with
  | ind n ih =>
    by_cases h : n < 10
    · rw [dec_small h]
      show 0 * 10 + ((dig n).toNat - 48) = n
      rw [dig_val h]
      omega
    · rw [dec_big h, numL_snoc, ih (n / 10) (by omega), dig_val (by omega)]
      omega
theorem dec_inj {a b : Nat} (h : dec a = dec b) : a = b := by rw [← numL_dec a, h, numL_dec b]
theorem dec_len {n k : Nat} (h : n < 10 ^ (k + 1)) : (dec n).length ≤ k + 1 := by
  induction k generalizing n with
  | zero => rw [dec_small (by simpa using h)]; simp
  | succ k ih =>
    by_cases h10 : n < 10
    · rw [dec_small h10]; simp
    · rw [dec_big h10, List.length_append]
      have : n / 10 < 10 ^ (k + 1) := by
        rw [Nat.pow_succ] at h
        omega
      have := ih this
      simp only [List.length_singleton]
      omega
theorem dec_len_pos (n : Nat) : 0 < (dec n).length := List.length_pos_iff.2 (dec_ne n)
/-- No nought ahead. -/
theorem dec_head (n : Nat) : (dec n).head? = some (dig 0) → n = 0 := by
  induction n using Nat.strongRecOn with
  | ind n ih =>
    intro h
    by_cases h10 : n < 10
    · rw [dec_small h10] at h
      simp only [List.head?_cons, Option.some.injEq] at h
      have := congrArg UInt8.toNat h
      rw [dig_val h10, dig_val (by omega)] at this
      omega
    · rw [dec_big h10, List.head?_append] at h
      cases hh : (dec (n / 10)).head? with
      | none => rw [List.head?_eq_none_iff] at hh; exact absurd hh (dec_ne _)
      | some x =>
        rw [hh] at h
        simp only [Option.some_or, Option.some.injEq] at h
        subst h
        have := ih (n / 10) (by omega) hh
        omega
/-- The check of a text. -/
def chk (l : List UInt8) : Int := l.foldl (fun h b => (37 * h + (b.toNat : Int)) % 999983) 11
theorem chk_bound (l : List UInt8) : 0 ≤ chk l ∧ chk l < 999983 := by
  unfold chk
  suffices h : ∀ (l : List UInt8) (x : Int), 0 ≤ x → x < 999983 → 0 ≤ l.foldl (fun h b => (37 * h + (b.toNat : Int)) % 999983) x ∧ l.foldl (fun h b => (37 * h + (b.toNat : Int)) % 999983) x < 999983 from h l 11 (by omega) (by omega)
  intro l
  induction l with
  | nil => intro x h0 h1; exact ⟨h0, h1⟩
  | cons b l ih => intro x h0 h1; exact ih _ (Int.emod_nonneg _ (by omega)) (Int.emod_lt_of_pos _ (by omega))
theorem chk_snoc (l : List UInt8) (b : UInt8) : chk (l ++ [b]) = (37 * chk l + (b.toNat : Int)) % 999983 := by simp [chk]
/-- The head of a text's frame. -/
def headL (l : List UInt8) : List UInt8 := dec l.length ++ 32 :: dec (chk l).toNat
/-- The frame of a text of at most 2000 bytes. -/
def frL (l : List UInt8) : List UInt8 := headL l ++ 10 :: (l ++ [10])
def frameL (l : List UInt8) : List UInt8 := if l.length ≤ 2000 then frL l else []
theorem frL_len (l : List UInt8) : (frL l).length = (headL l).length + l.length + 2 := by simp [frL]; omega
theorem headL_len {l : List UInt8} (h : l.length ≤ 2000) : (headL l).length ≤ 11 ∧ 3 ≤ (headL l).length := by
  have h1 := dec_len (n := l.length) (k := 3) (by omega)
  have h2 := dec_len (n := (chk l).toNat) (k := 5) (by have := chk_bound l; omega)
  have h3 := dec_len_pos l.length
  have h4 := dec_len_pos (chk l).toNat
  simp only [headL, List.length_append, List.length_cons]
  omega
theorem headL_no10 (l : List UInt8) : ∀ b ∈ headL l, b ≠ 10 := by
  intro b hb e
  subst e
  simp only [headL, List.mem_append, List.mem_cons] at hb
  rcases hb with hb | hb | hb
  · have := dec_dig _ _ hb; unfold isDig at this; simp at this
  · cases hb
  · have := dec_dig _ _ hb; unfold isDig at this; simp at this
theorem dec_no32 (n : Nat) : ∀ b ∈ dec n, b ≠ 32 := by
  intro b hb e
  subst e
  have := dec_dig _ _ hb; unfold isDig at this; simp at this
/-- What stands ahead of the first byte b. -/
def upto (b : UInt8) : List UInt8 → List UInt8
  | [] => []
  | x :: l => if x = b then [] else x :: upto b l
theorem upto_at {b : UInt8} {p : List UInt8} (h : ∀ x ∈ p, x ≠ b) (q : List UInt8) : upto b (p ++ b :: q) = p := by
  induction p with
  | nil => simp [upto]
  | cons x p ih =>
    have hx := h x (by simp)
    simp only [List.cons_append, upto, if_neg hx]
    rw [ih (fun y hy => h y (by simp [hy]))]
theorem upto_none {b : UInt8} {p : List UInt8} (h : ∀ x ∈ p, x ≠ b) : upto b p = p := by
  induction p with
  | nil => rfl
  | cons x p ih =>
    simp only [upto, if_neg (h x (by simp))]
    rw [ih (fun y hy => h y (by simp [hy]))]
theorem upto_prefix (b : UInt8) (l : List UInt8) : upto b l <+: l := by
  induction l with
  | nil => exact List.prefix_rfl
  | cons x l ih =>
    unfold upto
    split
    · exact List.nil_prefix
    · obtain ⟨t, ht⟩ := ih
      exact ⟨t, by simp [ht]⟩
theorem upto_ne (b : UInt8) (l : List UInt8) : ∀ x ∈ upto b l, x ≠ b := by
  induction l with
  | nil => intro x hx; simp [upto] at hx
  | cons y l ih =>
    intro x hx
    unfold upto at hx
    split at hx
    · simp at hx
    · rcases List.mem_cons.1 hx with rfl | h
      · assumption
      · exact ih x h
/-- The disk d begins with the frame of t. -/
def Begins (d t : List UInt8) : Prop := t.length ≤ 2000 ∧ frL t <+: d
theorem begins_head {d t : List UInt8} (h : Begins d t) : upto 10 d = headL t := by
  obtain ⟨r, hr⟩ := h.2
  rw [← hr, frL, List.append_assoc, List.cons_append]
  exact upto_at (headL_no10 t) _
theorem begins_num {d t : List UInt8} (h : Begins d t) : upto 32 (upto 10 d) = dec t.length := by
  rw [begins_head h, headL]
  exact upto_at (dec_no32 _) _
theorem begins_text {d t : List UInt8} (h : Begins d t) : ((d.drop ((upto 10 d).length + 1)).take t.length) = t ∧ (upto 10 d).length + 1 + t.length + 1 ≤ d.length := by
  obtain ⟨r, hr⟩ := h.2
  have e := begins_head h
  have hl := frL_len t
  constructor
  · rw [e, ← hr, frL, List.append_assoc, List.cons_append, List.append_assoc]
    rw [show (headL t).length + 1 = (headL t ++ [10]).length by simp, show headL t ++ 10 :: (t ++ ([10] ++ r)) = (headL t ++ [10]) ++ (t ++ ([10] ++ r)) by simp, List.drop_left, List.take_left]
  · rw [e, ← hr, List.length_append, hl]
    omega
theorem begins_unique {d t s : List UInt8} (h : Begins d t) (k : Begins d s) : t = s := by
  have e : dec t.length = dec s.length := by rw [← begins_num h, ← begins_num k]
  have e2 := dec_inj e
  rw [← (begins_text h).1, ← (begins_text k).1, e2]
/-- The texts of all frames with which a disk begins. -/
inductive IsFrames : List UInt8 → List (List UInt8) → Prop where
  | stop {d : List UInt8} (h : ∀ t, ¬ Begins d t) : IsFrames d []
  | next {d t r : List UInt8} {ts : List (List UInt8)} (h : t.length ≤ 2000) (hd : d = frL t ++ r) (hr : IsFrames r ts) : IsFrames d (t :: ts)
theorem IsFrames.unique {d : List UInt8} {ts ss : List (List UInt8)} (h : IsFrames d ts) : IsFrames d ss → ts = ss := by
  induction h generalizing ss with
  | stop hn =>
    intro k
    cases k with
    | stop _ => rfl
    | next h hd _ => exact absurd ⟨h, _, hd.symm⟩ (hn _)
  | next hl hd _ ih =>
    intro k
    cases k with
    | stop hn => exact absurd ⟨hl, _, hd.symm⟩ (hn _)
    | next hl' hd' hr' =>
      have e := begins_unique (d := _) ⟨hl, _, hd.symm⟩ ⟨hl', _, hd'.symm⟩
      subst e
      rw [hd] at hd'
      have := List.append_cancel_left hd'
      subst this
      rw [ih hr']
/-- How many bytes they take. -/
def bytesOf (ts : List (List UInt8)) : List UInt8 := (ts.map frL).flatten
theorem bytesOf_cons (t : List UInt8) (ts : List (List UInt8)) : bytesOf (t :: ts) = frL t ++ bytesOf ts := by simp [bytesOf]
theorem bytesOf_snoc (ts : List (List UInt8)) (t : List UInt8) : bytesOf (ts ++ [t]) = bytesOf ts ++ frL t := by simp [bytesOf]
theorem IsFrames.at_ {d : List UInt8} {ts : List (List UInt8)} (h : IsFrames d ts) : ∃ r, d = bytesOf ts ++ r ∧ (∀ t ∈ ts, t.length ≤ 2000) ∧ ∀ t, ¬ Begins r t := by
  induction h with
  | stop hn => exact ⟨_, rfl, fun t ht => by simp at ht, hn⟩
  | @next d t r ts hl hd _ ih =>
    obtain ⟨q, h1, h2, h3⟩ := ih
    refine ⟨q, by rw [bytesOf_cons, List.append_assoc, ← h1, hd], fun s hs => ?_, h3⟩
    rcases List.mem_cons.1 hs with rfl | h
    · exact hl
    · exact h2 s h
theorem isFrames_of {d r : List UInt8} {ts : List (List UInt8)} (hd : d = bytesOf ts ++ r) (hl : ∀ t ∈ ts, t.length ≤ 2000) (hn : ∀ t, ¬ Begins r t) : IsFrames d ts := by
  induction ts generalizing d with
  | nil => rw [hd]; exact .stop hn
  | cons t ts ih =>
    rw [bytesOf_cons, List.append_assoc] at hd
    exact .next (hl t (by simp)) hd (ih rfl (fun s hs => hl s (by simp [hs])))
/-- A disk that is cut has its first frames. -/
theorem IsFrames.cut {d c : List UInt8} {ts ss : List (List UInt8)} (h : IsFrames d ts) (hc : c <+: d) (k : IsFrames c ss) : ss <+: ts := by
  induction k generalizing d ts with
  | stop _ => exact List.nil_prefix
  | @next c t r ss hl hd _ ih =>
    obtain ⟨q, hq⟩ := hc
    cases h with
    | stop hn => exact absurd ⟨hl, r ++ q, by rw [← hq, hd, List.append_assoc]⟩ (hn t)
    | @next _ t' r' ts hl' hd' hr' =>
      have e : t = t' := begins_unique (d := d) ⟨hl, r ++ q, by rw [← hq, hd, List.append_assoc]⟩ ⟨hl', _, hd'.symm⟩
      subst e
      have e2 : r' = r ++ q := by
        rw [hd, List.append_assoc] at hq
        rw [← hq] at hd'
        exact (List.append_cancel_left hd').symm
      subst e2
      obtain ⟨z, hz⟩ := ih hr' ⟨q, rfl⟩
      exact ⟨z, by simp [hz]⟩
theorem bytesOf_prefix {ss ts : List (List UInt8)} (h : ss <+: ts) : (bytesOf ss).length ≤ (bytesOf ts).length := by
  obtain ⟨z, rfl⟩ := h
  simp [bytesOf]
/-- The frame of one text, with a byte behind it that begins none. -/
theorem isFrames_one {t r : List UInt8} (hl : t.length ≤ 2000) (hr : r.length ≤ 4) : IsFrames (frL t ++ r) [t] := by
  refine .next hl rfl (.stop fun s hs => ?_)
  have := (begins_text hs).2
  have h1 := headL_len hs.1
  have e := begins_head hs
  rw [e] at this
  omega
/-- The first n bytes, as Torn takes them. -/
def firstB (l : List UInt8) (n : Int) : List UInt8 := l.take n.toNat
end Go.Proofs.Ytgaibngaincahaa

/-
  Strings as lists of bytes in the walks; the contracts of the specification's Check, l1Int, Frame, l5Cut and Torn.
-/
namespace Go.Proofs.Ytgaibngaincahaa
set_option linter.unusedSimpArgs false
set_option linter.unusedVariables false
open Go.RowKit Go.Sort

/-- The string of the bytes l. -/
def sv (l : List UInt8) : ByteArray := ⟨l.toArray⟩
theorem sv_size (l : List UInt8) : (sv l).size = l.length := by simp [sv, ByteArray.size]
theorem sv_app (a b : List UInt8) : sv a ++ sv b = sv (a ++ b) := ByteArray.mk_append_mk a b
theorem sv_sub (l : List UInt8) (a b : Nat) : (sv l).extract a b = sv ((l.drop a).take (b - a)) := ByteArray.extract_mk l a b
theorem sv_list (l : List UInt8) : (sv l).toList = l := by
  have h := ByteArray.toList_mk l
  exact h
theorem sv_get {l : List UInt8} {i : Nat} (h : i < (sv l).size) (h' : i < l.length) : (sv l)[i] = l[i] := by
  show l.toArray[i] = l[i]
  simp
theorem sv_of (s : ByteArray) : s = sv s.data.toList := by cases s; simp [sv]
theorem sv_inj {a b : List UInt8} (h : sv a = sv b) : a = b := by
  have := congrArg ByteArray.toList h
  rwa [sv_list, sv_list] at this
theorem sv_byte {l : List UInt8} {k : Nat} (h' : k < l.length) : ∀ h : k < (sv l).size, ((sv l)[k]'h).toNat = l[k].toNat := fun h => congrArg UInt8.toNat (sv_get h h')
/-- The k-th byte as a number. -/
def byt (l : List UInt8) (k : Nat) : Nat := (l.getD k 0).toNat
theorem byt_get {l : List UInt8} {k : Nat} (h : k < l.length) : byt l k = l[k].toNat := by simp [byt, h]
theorem byt_lt (l : List UInt8) (k : Nat) : byt l k < 256 := (l.getD k 0).toNat_lt
theorem sv_byt {l : List UInt8} {k : Nat} (h' : k < l.length) : ∀ h : k < (sv l).size, ((sv l)[k]'h).toNat = byt l k := fun h => by rw [byt_get h']; exact sv_byte h' h
theorem wr64 {z : Int} (h : -9223372036854775808 ≤ z) (h' : z ≤ 9223372036854775807) : wrap64 z = z := by unfold wrap64; omega
theorem take_byte {l : List UInt8} {k : Nat} (h : k < l.length) : l.take (k + 1) = l.take k ++ [l[k]] := List.take_succ_eq_append_getElem h

theorem Try.info5 : (Try.prog.info? 5).map (fun i => (i.zero, i.size, i.bytes)) = some (some (.int .u8 0), 1, 1) := by kernel_rfl
theorem byte_of {d : Nat} (h : d < 10) : sv [dig d] = ⟨#[UInt8.ofNat (48 + d)]⟩ := rfl

/-- string([]byte{x}) of a new block. -/
theorem one_byte (w : World) (b : UInt8) (x : Int) (hx : x = (b.toNat : Int)) : (convert 22 9 (.slice (some ⟨w.heap.size, 0, none⟩) 1 1)).run Try.prog (w.alloc (.cells #[.int .u8 x] 5)) = .ok (.string (sv [b])) (w.alloc (.cells #[.int .u8 x] 5)) := by
  subst hx
  refine run_convert_bytes_back (P := Try.prog) _ 22 9 5 ⟨w.heap.size, 0, none⟩ 1 [b] Try.underlying22 Try.underlying5 Try.underlying9 (fun j hj => ?_)
  have hj0 : j = 0 := by simpa using hj
  subst hj0
  have hb := heap_alloc_new w (.cells #[.int .u8 (b.toNat : Int)] 5)
  rw [add_lit0]
  simp only [World.cell?, hb]
  simp

end Go.Proofs.Ytgaibngaincahaa
