/-
  Several texts in one: Rpn.
-/
import Derived.Test.YtgaibngaincahaaJh
import Derived.Test.YtgaibngaincahaaJn
/-
  The specification's l1Put onto a list without an element; and onto any.
-/
namespace Go.Proofs.Ytgaibngaincahaa
set_option linter.unusedVariables false
set_option linter.unusedSimpArgs false
open Go.RowKit Go.Sort

set_option maxRecDepth 100000 in
set_option maxHeartbeats 3200000 in
theorem putN_any (n : Int) (w : World) : Calls Try.prog 87 #[.slice none 0 0, .int .i64 n] w fun e w' => AnsN w w' e [n] := by
  obtain ⟨i0, hi0, hz0, hz1, hz2⟩ := info_parts2n Try.info2n
  go_enter Try.func87, Try.ntmps87
  go_wp2_with fail
  go_loop [5] (fun i => i = .int .i64 0) (fun i => 0)
  case atStart => rfl
  case round =>
    subst hrel
    go_wp2_with (first
      | (at_builtin; refine wpList_append_none _ rfl (.tmp 34) (.tmp 37) _ rfl 2 i0 Try.underlying24 hi0 (some ⟨w.heap.size, 0, none⟩) 0 0 rfl (Nat.le_refl _) none 0 rfl ?_)
      | (at_builtin; refine wpList_append_none _ rfl (.tmp 39) (.tmp 42) _ rfl 2 i0 Try.underlying24 hi0 (some ⟨w.heap.size + 1, 0, none⟩) 0 0 rfl (Nat.le_refl _) none 0 rfl ?_)
      | (at_builtin; refine wpList_append_oo _ rfl (.tmp 43) (.tmp 45) _ rfl 2 i0 _ 1 8 Try.underlying24 hi0 hz0 hz1 hz2 rfl (by omega) (some ⟨w.heap.size + 1, 0, none⟩) 0 0 [] none rfl (OSo.nil _ _ (plainS _ _)) (some ⟨w.heap.size + 1 + 1, 0, none⟩) 1 1 [.int .i64 n] rfl rfl (.inr ⟨_, rfl, World.news_of_block (cs := #[.int .i64 n]) (t := 2) (fr := (0, 0)) (by simpa using heap_alloc_new ((w.alloc (.cells #[] 2)).alloc (.cells #[] 2)) (.cells #[.int .i64 n] 2))⟩) (by simp [Value.oneCell']) (by unfold maxLen; omega) (by omega) ?_; intro a2 c2 G2 w2 ho2 hg2 hat2)
      | (at_builtin; refine wpList_append_none _ rfl (.tmp 46) (.tmp 47) _ rfl 2 i0 Try.underlying24 hi0 a2 (0 + 1) c2 rfl ho2.le.1 (some ⟨w.heap.size, 0, none⟩) 0 rfl ?_))
    go_ret
    rcases ho2 with ⟨h0, _⟩ | ⟨g, off, rfl, ho2, rfl⟩
    · omega
    · have hG : g = w.heap.size + 1 + 1 + 1 := by
        rcases hat2 with h | h
        · cases h
        · simpa using h
      refine ⟨g, off, c2, rfl, by omega, by simpa [OI] using ho2, ?_⟩
      have h3 : Below w.heap.size w (((w.alloc (.cells #[] 2)).alloc (.cells #[] 2)).alloc (.cells #[.int .i64 n] 2)) := (((Below.refl _ _).alloc (Nat.le_refl _) _).alloc (by simp) _).alloc (by simp; omega) _
      exact below_of_grown h3 hg2 (fun k hk => by cases hk) h3.size
/-- Onto any list. -/
theorem putO_any (a : Option Addr) (cap : Nat) (xs : List Int) (n : Int) (w : World) (hv : Vec w a xs.length xs) (ha : a = none → cap = 0) (hcap : xs.length ≤ cap) (hm : cap ≤ maxLen) (hn : xs.length ≤ 100000000) (hoff : PlainA a) :
    Calls Try.prog 87 #[.slice a xs.length cap, .int .i64 n] w fun e w' => (e = .returned (.slice a xs.length cap) ∧ putL xs n = xs ∧ w' = w) ∨ AnsN w w' e (putL xs n) := by
  cases a with
  | none =>
    have hc := ha rfl
    subst hc
    have hx : xs = [] := List.eq_nil_of_length_eq_zero (by omega)
    subst hx
    exact (putN_any n w).mono (fun e w' h => .inr h)
  | some x =>
    obtain ⟨b, off, rfl⟩ := hoff x rfl
    refine putS_any b off xs.length cap xs n w rfl (fun i hi => ?_) hcap hm hn
    rcases hv.2.2 with h | ⟨b', off', hb, hc⟩
    · omega
    · cases hb
      exact hc i hi
end Go.Proofs.Ytgaibngaincahaa
