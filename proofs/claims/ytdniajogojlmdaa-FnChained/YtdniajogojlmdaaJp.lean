/-
  Several texts in one: Rnr Rpn.
-/
import Derived.Test.YtdniajogojlmdaaJi
import Derived.Test.YtdniajogojlmdaaJn
import Derived.Test.YtdniajogojlmdaaJh
/-
  The contract of the specification's NewRelay.
-/
namespace Go.Proofs.Ytdniajogojlmdaa
set_option linter.unusedVariables false
set_option linter.unusedSimpArgs false
open Go.RowKit Go.Sort

/-- A relay and a flag as an answer, in memory of its own. -/
def AnsRl (w w' : World) (e : Ending) (R : (Int × Int × List (List Int)) × Bool) : Prop := ∃ a c, e = .returned (.tuple #[rlV R.1.1 R.1.2.1 a R.1.2.2.length c, .bool R.2]) ∧ NewO w w' (iicl R.1.2.2) (.slice a R.1.2.2.length c)
theorem infoSl10 : (Try.prog.info? 24).map (fun i => (i.zero, i.size, i.bytes)) = some (some (.slice none 0 0), 1, 24) := by kernel_rfl
theorem Bx.r3 {w : World} {B : Nat} {T : TypeId} {x y v : Value} (h : Bx w B T #[x, y, v]) : w.cell? ⟨B, 0, none⟩ = some x ∧ w.cell? ⟨B, 1, none⟩ = some y ∧ w.cell? ⟨B, 2, none⟩ = some v := ⟨h.at 0 rfl, h.at 1 rfl, h.at 2 rfl⟩
/-- Three stores into one block. -/
theorem below3 {B g : Nat} {w w' : World} (h : Below B w w') (hg : B ≤ g) {x y z : Value} : Below B w (((w'.setCell ⟨g, 0, none⟩ x).setCell ⟨g, 1, none⟩ y).setCell ⟨g, 2, none⟩ z) :=
  ((h.setCell (p := ⟨g, 0, none⟩) hg x).setCell (p := ⟨g, 1, none⟩) hg y).setCell (p := ⟨g, 2, none⟩) hg z
theorem wrt3 (w : World) (g : Nat) {x y z : Value} : Wrt (fun b => b = g) w (((w.setCell ⟨g, 0, none⟩ x).setCell ⟨g, 1, none⟩ y).setCell ⟨g, 2, none⟩ z) :=
  ((Wrt.set w g 0 x).trans (Wrt.set _ g 1 y) (fun _ _ h => h)).trans (Wrt.set _ g 2 z) (fun _ _ h => h)
theorem owL_nils {w : World} : ∀ n, owL w (List.replicate n (icl [])) (List.replicate n (.slice none 0 0)) (fun _ => False)
  | 0 => ⟨rfl, fun _ h => h⟩
  | n + 1 => ⟨.slice none 0 0, List.replicate n (.slice none 0 0), fun _ => False, fun _ => False, rfl, ow_icl.2 ⟨none, 0, none, rfl, OSo.nil w 1 plainN, fun b => by simp⟩, owL_nils n, fun _ h => absurd h id, fun b => by simp⟩

theorem one_alloc10 (w : World) (o : Obj) : Below w.heap.size w (w.alloc o) := (Below.refl _ _).alloc (Nat.le_refl _) _
def ints (B : Nat) : List Int := (List.range B).map (fun i : Nat => (i : Int))
theorem ints_succ (k : Nat) : ints (k + 1) = ints k ++ [(k : Int)] := by simp [ints, List.range_succ]
theorem ints_len (k : Nat) : (ints k).length = k := by simp [ints]

/-- What NewRelay holds when k blocks are laid. -/
def NSt (w wr : World) (N B k : Nat) : Prop := ∃ a c G, Bx wr w.heap.size 35 #[.int .i64 0, .int .i64 0, .slice none 0 0] ∧ Bx wr (w.heap.size + 1 + 1) 35 #[.int .i64 (N : Int), .int .i64 (B : Int), .slice (some ⟨w.heap.size + 1, 0, none⟩) N N] ∧
  OSl wr 1 (w.heap.size + 1) 0 N N (.slice a k c :: List.replicate (N - 1) (.slice none 0 0)) ∧ OSo wr 1 a k c ((ints k).map (Value.int .i64)) G ∧ (∀ b, G = some b → w.heap.size + 1 + 1 < b) ∧ Below w.heap.size w wr
theorem NSt.start (w : World) (N B : Nat) (hN : 1 ≤ N ∧ N ≤ 12) : NSt w (((w.alloc (.cells #[.int .i64 0, .int .i64 0, .slice none 0 0] 35)).alloc (.cells (madeCells #[.slice none 0 0] N) 24)).alloc (.cells #[.int .i64 (N : Int), .int .i64 (B : Int), .slice (some ⟨w.heap.size + 1, 0, none⟩) N N] 35)) N B 0 := by
  refine ⟨none, 0, none, ((Bx.new _ _ _).alloc _).alloc _, ?_, ?_, OSo.nil _ _ plainN, fun b h => (by cases h), (((Below.refl _ _).alloc (Nat.le_refl _) _).alloc (by simp) _).alloc (by simp; omega) _⟩
  · have := Bx.new ((w.alloc (.cells #[.int .i64 0, .int .i64 0, .slice none 0 0] 35)).alloc (.cells (madeCells #[.slice none 0 0] N) 24)) 35 #[.int .i64 (N : Int), .int .i64 (B : Int), .slice (some ⟨w.heap.size + 1, 0, none⟩) N N]
    simpa using this
  · have h := osl_made (w.alloc (.cells #[.int .i64 0, .int .i64 0, .slice none 0 0] 35)) #[.slice none 0 0] 1 N 24 rfl (by omega) (by unfold maxLen; omega)
    have e : (List.replicate N (#[Value.slice none 0 0] : Array Value).toList).flatten = .slice none 0 0 :: List.replicate (N - 1) (.slice none 0 0) := by
      rw [← List.replicate_succ, show N - 1 + 1 = N by omega]
      simp
    rw [e, Nat.mul_one] at h
    have h2 := osl_wrt h (Wrt.of_below (f := fun _ => False) (one_alloc10 _ (.cells #[.int .i64 (N : Int), .int .i64 (B : Int), .slice (some ⟨w.heap.size + 1, 0, none⟩) N N] 35))) id
    simpa using h2
set_option maxRecDepth 100000 in
set_option maxHeartbeats 3200000 in
theorem newS_any (N B : Int) (w : World) : Calls Try.prog 43 #[.int .i64 N, .int .i64 B] w fun e w' => AnsRl w w' e (newL N B) := by
  by_cases hok : (1 ≤ N ∧ N ≤ 12) ∧ 1 ≤ B ∧ B ≤ 12
  · obtain ⟨N, rfl⟩ : ∃ n : Nat, N = (n : Int) := ⟨N.toNat, by omega⟩
    obtain ⟨B, rfl⟩ : ∃ n : Nat, B = (n : Int) := ⟨B.toNat, by omega⟩
    have HZ : Hid (newL (N : Int) (B : Int) = (((N : Int), (B : Int), newH N B), true)) := by rw [Hid, newL, if_pos hok]; simp
    have i1 : inB (N : Int) 1 12 = true := by simp [inB]; omega
    have i2 : inB (B : Int) 1 12 = true := by simp [inB]; omega
    have hN : 1 ≤ N ∧ N ≤ 12 := by omega
    have hB : 1 ≤ B ∧ B ≤ 12 := by omega
    have hmk := run_make_row' (P := Try.prog) 33 24 (.slice none 0 0) 24 Try.underlying33 infoSl10 rfl .i64 .i64 N (by omega) (by omega)
    obtain ⟨i0, hi0, hz0, hz1, hz2⟩ := info_parts2n Try.info2n
    clear hok
    have HS := NSt.start w N B hN
    generalize hW0 : ((w.alloc (.cells #[.int .i64 0, .int .i64 0, .slice none 0 0] 35)).alloc (.cells (madeCells #[.slice none 0 0] N) 24)).alloc (.cells #[.int .i64 (N : Int), .int .i64 (B : Int), .slice (some ⟨w.heap.size + 1, 0, none⟩) N N] 35) = W0 at *
    go_enter Try.func43, Try.ntmps43
    go_wp2_with (go_at_call 73; refine (l1In_any _ _ _ _).mono ?_; rintro e w' ⟨rfl, rfl⟩)
    clear i1 i2 hmk hW0
    go_loopw [7] (fun i wr => ∃ k : Nat, k ≤ B ∧ i = .int .i64 k ∧ NSt w wr N B k) (fun i _ => B - (intOf i).toNat)
    case atStart => exact ⟨0, Nat.zero_le _, rfl, HS⟩
    case round =>
      obtain ⟨k, hk, rfl, a, c, G, hz, hr, ho, hs, hG, hb⟩ := hrel
      obtain ⟨r0, r1, r2⟩ := hr.r3
      by_cases hlt : k < B
      · have hk12 : k < 12 := by omega
        have hc0 : wr.cell? ⟨w.heap.size + 1, 0, none⟩ = some (.slice a k c) := ho.cell 0 (by omega)
        have hA : ∀ X, Same X (wr.alloc (.cells #[.int .i64 (k : Int)] 2)) → ∃ v' w4, (Builtin.append_ #[24, 24] 24 #[.slice a k c, .slice (some ⟨wr.heap.size, 0, none⟩) 1 1]).run Try.prog X = .ok v' w4 ∧
            ∃ a' c', v' = .slice a' (k + 1) c' ∧ w4.cell? ⟨w.heap.size + 1 + 1, 2, none⟩ = some (.slice (some ⟨w.heap.size + 1, 0, none⟩) N N) ∧ w4.cell? ⟨w.heap.size + 1, 0, none⟩ = some (.slice a k c) ∧ w4.frozen? ⟨w.heap.size + 1, 0, none⟩ = false ∧ NSt w (w4.setCell ⟨w.heap.size + 1, 0, none⟩ (.slice a' (k + 1) c')) N B (k + 1) := by
          intro X hX
          have hw0 : Wrt (fun _ => False) wr X := (Wrt.of_below (one_alloc10 wr _)).trans (hX.wrt _) (fun _ _ h => h)
          have hsX := hs.wrt hw0 (fun _ _ h => h)
          have hnew : X.heap[wr.heap.size]? = some (.cells #[.int .i64 (k : Int)] 2) := by rw [hX.heap]; exact heap_alloc_new wr _
          obtain ⟨a', c', G', w4, hr4, ho4, hg4, hat4⟩ := run_append_oo (P := Try.prog) X 24 24 2 i0 _ 1 8 Try.underlying24 hi0 hz0 hz1 hz2 rfl (by omega) a k c _ G hsX (some ⟨wr.heap.size, 0, none⟩) 1 1 [.int .i64 (k : Int)] rfl (.inr ⟨_, rfl, World.news_of_block (cs := #[.int .i64 (k : Int)]) (t := 2) (fr := (0, 0)) hnew⟩) (by simp [Value.oneCell']) (by unfold maxLen; omega) (by omega)
          have hw4 : Wrt (fun b => G = some b) wr w4 := (hw0.mono (fun _ _ h => absurd h id)).trans (Wrt.of_grown hg4) (fun _ _ h => h)
          have hr' := hr.wrt hw4 (fun h => by have := hG _ h; omega)
          have ho' := osl_wrt ho hw4 (fun h => by have := hG _ h; omega)
          have hz' := hz.wrt hw4 (fun h => by have := hG _ h; omega)
          have hbl := hr.lt
          have hG' : ∀ b, G' = some b → w.heap.size + 1 + 1 < b := fun b hb' => by
            rcases hat4 with h | h
            · exact hG b (h ▸ hb')
            · rw [h] at hb'; cases hb'; rw [hX.size]; simp; omega
          refine ⟨_, w4, hr4, a', c', rfl, hr'.at 2 rfl, ho'.cell 0 (by omega), ho'.free 0 (by omega), a', c', G', ?_, ?_, ?_, ?_, hG', ?_⟩
          · exact hz'.far (by omega) _
          · exact hr'.far (by omega) _
          · have := osl_put ho' (j := 0) (by omega) (.slice a' (k + 1) c')
            simpa using this
          · rw [ints_succ, List.map_append]
            exact ho4.set (fun h => by have := hG' _ h; omega) _
          · refine Below.setCell ?_ (p := ⟨w.heap.size + 1, 0, none⟩) (Nat.le_succ _) _
            exact hw4.below hb hb.size (fun b h => by have := hG b h; omega)
        have f0 := ho.free 0 (by omega)
        have i1 : 0 < N := by omega
        have c0' := ((Grew.refl wr).alloc (.cells #[.int .i64 (k : Int)] 2)).cell hc0
        have r2' := ((Grew.refl wr).alloc (.cells #[.int .i64 (k : Int)] 2)).cell r2
        clear hz hr ho hs hG hb
        go_wp2_with fail
        go_region_law
          (first
            | (refine step_append_of (by rfl) _ _ _ _ (by rfl) (.slice a k c) _ (by rfl) (by rfl) hA ⟨rfl, rfl, rfl, rfl⟩ ?_; rintro v' w4 ⟨a', c', rfl, x1, x2, x3, hn⟩))
        all_goals
          go_wp2
          go_roundw
          case rel => exact ⟨k + 1, by omega, by go_num, hn⟩
          case measure => simp [intOf]; omega
      · obtain rfl : k = B := by omega
        have HO : Hid (NewO w (((wr.setCell ⟨w.heap.size, 0, none⟩ (.int .i64 (N : Int))).setCell ⟨w.heap.size, 1, none⟩ (.int .i64 (k : Int))).setCell ⟨w.heap.size, 2, none⟩ (.slice (some ⟨w.heap.size + 1, 0, none⟩) N N)) (iicl (newH N k)) (.slice (some ⟨w.heap.size + 1, 0, none⟩) N N)) := by
          have hw3 := wrt3 wr w.heap.size (x := .int .i64 (N : Int)) (y := .int .i64 (k : Int)) (z := .slice (some ⟨w.heap.size + 1, 0, none⟩) N N)
          have hs' := hs.wrt hw3 (fun b hb e => by have := hG b hb; omega)
          have ho' := osl_wrt ho hw3 (by omega)
          refine ⟨fun b => b = w.heap.size + 1 ∨ G = some b, ?_, fun b hb => by rcases hb with h | h; omega; have := hG b h; omega, below3 hb (Nat.le_refl _)⟩
          have hlen : (newH N k).length = N := by simp [newH]; omega
          have e1 : iicl (newH N k) = .sl 1 N (icl (ints k) :: List.replicate (N - 1) (icl [])) := by
            rw [iicl, hlen]
            simp [newH, ints]
          rw [e1]
          refine ⟨_, _, _, some (w.heap.size + 1), fun b => G = some b, rfl, OSo.of ho', ?_, fun b hb e => by cases hb; have := hG _ e; omega, fun b => by simp [eq_comm]⟩
          refine ⟨_, _, fun b => G = some b, fun _ => False, rfl, ow_icl.2 ⟨a, c, G, by rw [ints_len], by rw [ints_len]; exact hs', fun b => Iff.rfl⟩, owL_nils _, fun _ _ h => h, fun b => by simp⟩
        have z0 := hz.r3
        obtain ⟨z0, z1, z2⟩ := z0
        have zf0 := hz.f 0
        have zf1 := hz.f 1
        have zf2 := hz.f 2
        have HL : Hid ((newH N k).length = N) := by rw [Hid]; simp [newH]; omega
        clear hz hr ho hs hG hb
        go_wp2
        refine bodyPost_ret (v := .tuple #[.agg #[.int .i64 (N : Int), .int .i64 (k : Int), .slice (some ⟨w.heap.size + 1, 0, none⟩) N N], .bool true]) (by simp [results, Try.results43, go_sem, z0, z1, z2]) rfl ?_
        rw [HZ.out]
        refine ⟨some ⟨w.heap.size + 1, 0, none⟩, N, ?_, ?_⟩
        · simp only [HL.out]; rfl
        · simp only [HL.out]; exact HO.out
  · have HZ : Hid (newL N B = (zeroR, false)) := by rw [Hid, newL, if_neg hok]
    have HN : Hid (NewO w (w.alloc (.cells #[.int .i64 0, .int .i64 0, .slice none 0 0] 35)) (iicl []) (.slice none 0 0)) := ⟨fun _ => False, ⟨none, 0, [], none, fun _ => False, rfl, OSo.nil _ _ plainN, ⟨rfl, fun _ h => h⟩, fun _ _ h => h, fun b => by simp⟩, fun _ h => absurd h id, one_alloc10 _ _⟩
    cases i1 : inB N 1 12 with
    | false =>
      clear hok
      go_enter Try.func43, Try.ntmps43
      go_wp2_with (go_at_call 73; refine (l1In_any _ _ _ _).mono ?_; rintro e w' ⟨rfl, rfl⟩)
      refine bodyPost_ret (v := .tuple #[.agg #[.int .i64 0, .int .i64 0, .slice none 0 0], .bool false]) (by simp [results, Try.results43, go_sem]) rfl ?_
      rw [HZ.out]
      exact ⟨none, 0, rfl, HN.out⟩
    | true =>
      have i2 : inB B 1 12 = false := by
        rw [← Bool.not_eq_true]
        intro h
        apply hok
        simp only [inB, Bool.and_eq_true, decide_eq_true_eq] at i1 h
        exact ⟨i1, h⟩
      clear hok
      go_enter Try.func43, Try.ntmps43
      go_wp2_with (go_at_call 73; refine (l1In_any _ _ _ _).mono ?_; rintro e w' ⟨rfl, rfl⟩)
      refine bodyPost_ret (v := .tuple #[.agg #[.int .i64 0, .int .i64 0, .slice none 0 0], .bool false]) (by simp [results, Try.results43, go_sem]) rfl ?_
      rw [HZ.out]
      exact ⟨none, 0, rfl, HN.out⟩
end Go.Proofs.Ytdniajogojlmdaa

/-
  The specification's l1Put onto a list without an element; and onto any.
-/
namespace Go.Proofs.Ytdniajogojlmdaa
set_option linter.unusedVariables false
set_option linter.unusedSimpArgs false
open Go.RowKit Go.Sort

set_option maxRecDepth 100000 in
set_option maxHeartbeats 3200000 in
theorem putN_any (n : Int) (w : World) : Calls Try.prog 83 #[.slice none 0 0, .int .i64 n] w fun e w' => AnsN w w' e [n] := by
  obtain ⟨i0, hi0, hz0, hz1, hz2⟩ := info_parts2n Try.info2n
  go_enter Try.func83, Try.ntmps83
  go_wp2_with fail
  go_loop [5] (fun i => i = .int .i64 0) (fun i => 0)
  case atStart => rfl
  case round =>
    subst hrel
    go_wp2_with (first
      | (at_builtin; refine wpList_append_none _ rfl (.tmp 34) (.tmp 37) _ rfl 2 i0 Try.underlying24 hi0 (some ⟨w.heap.size, 0, none⟩) 0 0 rfl (Nat.le_refl _) none 0 rfl ?_)
      | (at_builtin; refine wpList_append_none _ rfl (.tmp 39) (.tmp 42) _ rfl 2 i0 Try.underlying24 hi0 (some ⟨w.heap.size + 1, 0, none⟩) 0 0 rfl (Nat.le_refl _) none 0 rfl ?_)
      | (at_builtin; refine wpList_append_oo _ rfl (.tmp 43) (.tmp 45) _ rfl 2 i0 _ 1 8 Try.underlying24 hi0 hz0 hz1 hz2 rfl (by omega) (some ⟨w.heap.size + 1, 0, none⟩) 0 0 [] none rfl (OSo.nil _ _ (plainS _ _)) (some ⟨w.heap.size + 1 + 1, 0, none⟩) 1 1 [.int .i64 n] rfl rfl (.inr ⟨_, rfl, World.news_of_block (cs := #[.int .i64 n]) (t := 2) (fr := (0, 0)) (by simpa using heap_alloc_new ((w.alloc (.cells #[] 2)).alloc (.cells #[] 2)) (.cells #[.int .i64 n] 2))⟩) (by simp [Value.oneCell']) (by unfold maxLen; omega) (by omega) ?_; intro a2 c2 G2 w2 ho2 hg2 hat2)
      | (at_builtin; refine wpList_append_none _ rfl (.tmp 46) (.tmp 47) _ rfl 2 i0 Try.underlying24 hi0 a2 (0 + 1) c2 rfl ho2.le.1 (some ⟨w.heap.size, 0, none⟩) 0 rfl ?_))
    go_ret
    rcases ho2 with ⟨h0, _⟩ | ⟨g, off, rfl, ho2, rfl⟩
    · omega
    · have hG : g = w.heap.size + 1 + 1 + 1 := by
        rcases hat2 with h | h
        · cases h
        · simpa using h
      refine ⟨g, off, c2, rfl, by omega, by simpa [OI] using ho2, ?_⟩
      have h3 : Below w.heap.size w (((w.alloc (.cells #[] 2)).alloc (.cells #[] 2)).alloc (.cells #[.int .i64 n] 2)) := (((Below.refl _ _).alloc (Nat.le_refl _) _).alloc (by simp) _).alloc (by simp; omega) _
      exact below_of_grown h3 hg2 (fun k hk => by cases hk) h3.size
/-- Onto any list. -/
theorem putO_any (a : Option Addr) (cap : Nat) (xs : List Int) (n : Int) (w : World) (hv : Vec w a xs.length xs) (ha : a = none → cap = 0) (hcap : xs.length ≤ cap) (hm : cap ≤ maxLen) (hn : xs.length ≤ 1000000) (hoff : PlainA a) :
    Calls Try.prog 83 #[.slice a xs.length cap, .int .i64 n] w fun e w' => (e = .returned (.slice a xs.length cap) ∧ putL xs n = xs ∧ w' = w) ∨ AnsN w w' e (putL xs n) := by
  cases a with
  | none =>
    have hc := ha rfl
    subst hc
    have hx : xs = [] := List.eq_nil_of_length_eq_zero (by omega)
    subst hx
    exact (putN_any n w).mono (fun e w' h => .inr h)
  | some x =>
    obtain ⟨b, off, rfl⟩ := hoff x rfl
    refine putS_any b off xs.length cap xs n w rfl (fun i hi => ?_) hcap hm hn
    rcases hv.2.2 with h | ⟨b', off', hb, hc⟩
    · omega
    · cases hb
      exact hc i hi
end Go.Proofs.Ytdniajogojlmdaa
