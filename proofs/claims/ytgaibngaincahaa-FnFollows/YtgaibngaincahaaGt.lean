/-
  Several texts in one: Drt Drb.
-/
import Derived.Test.YtgaibngaincahaaGq
import Derived.Deep.RegionHeld3
/-
  Slices of bytes in memory of one's own; the contract of the specification's l1DrawText.
-/
namespace Go.Proofs.Ytgaibngaincahaa
set_option linter.unusedSimpArgs false
set_option linter.unusedVariables false
open Go.RowKit Go.Sort

/-- The cells of bytes. -/
def bys (l : List UInt8) : List Value := l.map (fun b => Value.int .u8 (b.toNat : Int))
theorem bys_app (a b : List UInt8) : bys (a ++ b) = bys a ++ bys b := by simp [bys]
theorem bys_len (l : List UInt8) : (bys l).length = l.length := by simp [bys]
theorem bys_one (l : List UInt8) : ∀ u ∈ bys l, u.oneCell' = true := by
  intro u hu
  simp only [bys, List.mem_map] at hu
  obtain ⟨s, _, rfl⟩ := hu
  rfl
/-- A slice of one's own that holds the bytes l. -/
def OBy (w : World) (g off n cap : Nat) (l : List UInt8) : Prop := OSl w 1 g off n cap (bys l)
theorem OBy.length {w : World} {g off n cap : Nat} {l : List UInt8} (h : OBy w g off n cap l) : l.length = n := by have := h.len; rw [bys_len] at this; omega
theorem OBy.cellAt {w : World} {g off n cap : Nat} {l : List UInt8} (h : OBy w g off n cap l) {i : Nat} (hi : i < l.length) : w.cell? ⟨g, off + i, none⟩ = some (.int .u8 (l[i].toNat : Int)) := by
  have hl := h.length
  rw [h.cell i (by omega)]
  simp [bys, hi]
theorem OBy.below {w w' : World} {g off n cap B : Nat} {l : List UInt8} (h : OBy w g off n cap l) (hb : Below B w w') (hg : g < B) : OBy w' g off n cap l := OSl.below h hb hg
theorem OBy.drewN {w : World} {g off n cap : Nat} {l : List UInt8} (h : OBy w g off n cap l) (k : Nat) : OBy (w.drewN k) g off n cap l := OSl.drewN h k
theorem oby_empty (w : World) (T : TypeId) : OBy (w.alloc (.cells #[] T)) w.heap.size 0 0 0 [] :=
  ⟨rfl, Nat.le_refl _, Nat.zero_le _, by simp, fun i hi => by omega, fun i hi => by omega, fun i hi => by omega⟩
theorem oby_app {w : World} {g off n m cap : Nat} {l r : List UInt8} (h : OSl w 1 g off (n + m) cap (bys l ++ bys r)) : OBy w g off (n + m) cap (l ++ r) := by unfold OBy; rw [bys_app]; exact h
theorem OBy.set {w : World} {g off n cap : Nat} {l : List UInt8} (h : OBy w g off n cap l) {i : Nat} (hi : i < n) (b : UInt8) : OBy (w.setCell ⟨g, off + i, none⟩ (.int .u8 (b.toNat : Int))) g off n cap (l.set i b) := by
  have hl := h.length
  have hc := h.cellAt (i := i) (by omega)
  refine ⟨by rw [bys_len]; simp [hl], h.le, h.max, by simp [World.setCell]; exact h.blk, fun j hj => ?_, fun j hj => ?_, fun j hj => by rw [World.frozen?_setCell]; exact h.free j hj⟩
  · by_cases e : i = j
    · subst e
      rw [World.cell?_setCell_same _ _ _ hc]
      simp [bys, show i < l.length by omega]
    · rw [World.cell?_setCell_other _ _ _ _ (by simp [e]), h.cell j hj]
      simp [bys, e]
  · by_cases e : i = j
    · subst e
      rw [World.cell?_setCell_same _ _ _ hc]; rfl
    · rw [World.cell?_setCell_other _ _ _ _ (by simp [e])]; exact h.some j hj
theorem OBy.str {w : World} {g off cap : Nat} {l : List UInt8} (h : OBy w g off l.length cap l) : (convert 22 9 (.slice (some ⟨g, off, none⟩) l.length cap)).run Try.prog w = .ok (.string (sv l)) w :=
  run_convert_bytes_back (P := Try.prog) w 22 9 5 ⟨g, off, none⟩ cap l Try.underlying22 Try.underlying5 Try.underlying9 (fun j hj => by rw [add_lit0]; exact h.cellAt hj)
theorem OBy.take {w : World} {g off n cap : Nat} {l : List UInt8} (h : OBy w g off n cap l) {k : Nat} (hk : k ≤ n) : OBy w g off k cap (l.take k) := by
  have hl := h.length
  have hle := h.le
  refine ⟨by rw [bys_len, List.length_take]; omega, by omega, h.max, h.blk, fun i hi => ?_, h.some, h.free⟩
  rw [h.cell i (by omega)]
  simp [bys, show i < k by omega]
theorem bys_news {w : World} {g off n cap : Nat} {l : List UInt8} (h : OBy w g off n cap l) (k : Nat) (hk : k ≤ n) (j : Nat) (u : Value) (hu : (bys (l.drop k))[j]? = some u) : w.cell? ((⟨g, off + k, none⟩ : Addr).add j) = some u := by
  have hl := h.length
  have hj : j < (l.drop k).length := by
    have := (List.getElem?_eq_some_iff.1 hu).1
    rwa [bys_len] at this
  rw [List.length_drop] at hj
  rw [add_lit0, Nat.add_assoc, h.cellAt (i := k + j) (by omega)]
  simp only [bys, List.getElem?_map, List.getElem?_drop] at hu
  rw [List.getElem?_eq_getElem (by omega)] at hu
  simpa using hu
theorem bys_news0 {w : World} {g off n cap : Nat} {l : List UInt8} (h : OBy w g off n cap l) (k : Nat) (hk : k ≤ n) (j : Nat) (u : Value) (hu : (bys (l.take k))[j]? = some u) : w.cell? ((⟨g, off, none⟩ : Addr).add j) = some u := by
  have := bys_news (h.take hk) 0 (by omega) j u (by rw [List.drop_zero]; exact hu)
  rwa [Nat.add_zero] at this
/-- What a draw of bytes holds as the world goes on. -/
structure Lb (w wr : World) (p : Nat) (a : Option Addr) (len cap g f c : Nat) (l : List UInt8) : Prop where
  out : OBy wr g f l.length c l
  new : w.heap.size ≤ g
  cur : CurAt wr p a len cap
  grown : w.grownBy wr (some p)
theorem Lb.step {w wr wx : World} {p : Nat} {a : Option Addr} {len cap g f c : Nat} {l : List UInt8} (h : Lb w wr p a len cap g f c l) (hpl : p < w.heap.size) (hc : CurAt wx p a len cap) (hg : wr.grownBy wx (some p)) : Lb w wx p a len cap g f c l :=
  ⟨OSl.grown h.out hg (by have := h.new; simp; omega), h.new, hc, grown_trans h.grown hg⟩
theorem Lb.bvec {w wr : World} {p : Nat} {a : Option Addr} {len cap g f c : Nat} {l : List UInt8} {bs : Nat → Int} (h : Lb w wr p a len cap g f c l) (hv : BVec w a len bs) (hp : OffB a len p) : BVec wr a len bs := hv.grown h.grown hp
theorem Lb.push {w wr w6 : World} {p : Nat} {a : Option Addr} {len cap g f c g6 f6 c6 : Nat} {l r : List UInt8} (h : Lb w wr p a len cap g f c l) (hpl : p < w.heap.size) (o : Obj) (hO : OSl w6 1 g6 f6 (l.length + r.length) c6 (bys l ++ bys r)) (hg : (wr.alloc o).grownBy w6 (some g)) (hat : g6 = g ∨ g6 = (wr.alloc o).heap.size) : Lb w w6 p a len cap g6 f6 c6 (l ++ r) := by
  have hs := h.grown.size
  have hn := h.new
  refine ⟨by rw [List.length_append]; exact oby_app hO, ?_, ?_, ?_⟩
  · rcases hat with e | e
    · rw [e]; exact h.new
    · rw [e]; simp; omega
  · exact (h.cur.alloc o).grown hg (by simp; omega)
  · exact grown_more (grown_more h.grown (World.grownBy_alloc wr o none) (by simp)) hg (fun k hk => by cases hk; exact h.new)
theorem Lb.set {w wr : World} {p : Nat} {a : Option Addr} {len cap g f c i : Nat} {l : List UInt8} (h : Lb w wr p a len cap g f c l) (hpl : p < w.heap.size) (hi : i < l.length) (b : UInt8) : Lb w (wr.setCell ⟨g, f + i, none⟩ (.int .u8 (b.toNat : Int))) p a len cap g f c (l.set i b) :=
  ⟨by rw [List.length_set]; exact h.out.set hi b, h.new, h.cur.set (by have := h.new; omega) _ _, grown_setOwn h.grown h.new _ _⟩
theorem u8_of {x : Int} (h0 : 0 ≤ x) (h1 : x ≤ 255) : ((UInt8.ofNat x.toNat).toNat : Int) = x := by rw [UInt8.toNat_ofNat']; omega

attribute [local irreducible] sv
set_option maxRecDepth 100000 in
set_option maxHeartbeats 1600000 in
theorem drawText_any (p : Nat) (a : Option Addr) (len cap : Nat) (bs : Nat → Int) (most : Nat) (w : World) (hcur : CurAt w p a len cap) (hv : BVec w a len bs) (hp : OffB a len p) (hl : len ≤ 4096) (hmost : most ≤ 1000) :
    Calls Try.prog 86 #[.pointer (some ⟨p, 0, none⟩), .int .i64 (most : Int)] w fun e w' => ∃ l : List UInt8, l.length ≤ most ∧ e = .returned (.string (sv l)) ∧ CurAt w' p a len cap ∧ w.grownBy w' (some p) := by
  obtain ⟨i0, hi0, hz0, hz1, hz2⟩ := info_parts Try.info5
  have hpl := hcur.lt
  have L0 : Lb w (w.alloc (.cells #[] 5)) p a len cap w.heap.size 0 0 [] := ⟨oby_empty w 5, Nat.le_refl _, hcur.alloc _, World.grownBy_alloc w _ _⟩
  go_enter Try.func86, Try.ntmps86
  go_wp2_with fail
  refine (below_any p a len cap bs ((most : Int) + 1) _ L0.cur (L0.bvec hv hp) hp hl (by omega)).mono ?_
  rintro e w1 ⟨x, rfl, hx0, hx1, _, hc1, hg1⟩
  have hxm := hx1 (by omega)
  obtain ⟨N, hN⟩ : ∃ N : Nat, x = (N : Int) := ⟨x.toNat, by omega⟩
  subst hN
  have HL1 : Hid (Lb w w1 p a len cap w.heap.size 0 0 []) := L0.step hpl hc1 hg1
  clear L0 hx0 hx1 hc1 hg1
  go_wp2
  go_loopw [5, 6] (fun b n wr => ∃ (l : List UInt8) (g f c M : Nat), n = .int .i64 (M : Nat) ∧ b = .slice (some ⟨g, f, none⟩) l.length c ∧ l.length + M ≤ most ∧ Lb w wr p a len cap g f c l) (fun _ n _ => (intOf n).toNat)
  case atStart => exact ⟨[], w.heap.size, 0, 0, N, rfl, rfl, by simp; omega, HL1.out⟩
  case round =>
    obtain ⟨l, g, f, c, M, rfl, rfl, hlm, hL⟩ := hrel
    have KL : Hid (Lb w wr p a len cap g f c l) := hL
    clear hL HL1
    rcases Nat.eq_zero_or_pos M with h0 | hpos
    · subst h0
      go_wp2_with fail
      refine (once_any p a len cap bs 7 wr KL.out.cur (KL.out.bvec hv hp) hp hl (by omega)).mono ?_
      rintro e w2 ⟨x, rfl, hc2, hg2⟩
      have K2 : Hid (Lb w w2 p a len cap g f c l) := KL.out.step hpl hc2 hg2
      clear hc2 hg2
      by_cases hx : x = true ∧ 0 < l.length
      · obtain ⟨rfl, hlp⟩ := hx
        have hli : (0 : Int) < (l.length : Int) := by omega
        go_wp2_with fail
        refine (below_any p a len cap bs (l.length : Int) w2 K2.out.cur (K2.out.bvec hv hp) hp hl (by omega)).mono ?_
        rintro e w3 ⟨y, rfl, hy0, hy1, _, hc3, hg3⟩
        have hyl := hy1 (by omega)
        obtain ⟨k, hk⟩ : ∃ k : Nat, y = (k : Int) := ⟨y.toNat, by omega⟩
        subst hk
        have K3 : Hid (Lb w w3 p a len cap g f c l) := K2.out.step hpl hc3 hg3
        clear hy0 hy1 hc3 hg3
        go_wp2_with fail
        refine (byte_any p a len cap bs w3 K3.out.cur (K3.out.bvec hv hp) hp hl).mono ?_
        rintro e w4 ⟨z, rfl, hz00, hz255, hc4, hg4⟩
        have K4 : Hid (Lb w w4 p a len cap g f c l) := K3.out.step hpl hc4 hg4
        have hkl : k < l.length := by omega
        have c1 := K4.out.out.cellAt hkl
        have f1 := K4.out.out.free k (by have := K4.out.out.le; omega)
        have K5 := K4.out.set hpl hkl (UInt8.ofNat z.toNat)
        rw [u8_of hz00 hz255] at K5
        have hstr := K5.out.str
        rw [List.length_set] at hstr
        have hyi : (0 : Int) ≤ (k : Int) := by omega
        have K5' : Hid (CurAt (w4.setCell ⟨g, f + k, none⟩ (.int .u8 z)) p a len cap ∧ w.grownBy (w4.setCell ⟨g, f + k, none⟩ (.int .u8 z)) (some p)) := ⟨K5.cur, K5.grown⟩
        clear hc4 hg4 K5
        go_wp2
        go_ret
        exact ⟨l.set k (UInt8.ofNat z.toNat), by rw [List.length_set]; omega, rfl, K5'.out.1, K5'.out.2⟩
      · have hstr := K2.out.out.str
        have K2' : Hid (CurAt w2 p a len cap ∧ w.grownBy w2 (some p)) := ⟨K2.out.cur, K2.out.grown⟩
        cases x
        · clear hx
          go_wp2
          go_ret
          exact ⟨l, by omega, rfl, K2'.out.1, K2'.out.2⟩
        · have hli : l.length = 0 := by
            rcases Nat.eq_zero_or_pos l.length with h | h
            · exact h
            · exact absurd ⟨rfl, h⟩ hx
          rw [hli] at hstr
          rw [hli]
          clear hx
          go_wp2
          go_ret
          exact ⟨l, by omega, rfl, K2'.out.1, K2'.out.2⟩
    · have hMi : (0 : Int) < (M : Int) := by omega
      go_wp2_with fail
      refine (below_any p a len cap bs 3 wr KL.out.cur (KL.out.bvec hv hp) hp hl (by omega)).mono ?_
      rintro e w2 ⟨x, rfl, hx0, hx1, _, hc2, hg2⟩
      have hx3 := hx1 (by omega)
      have K2 : Hid (Lb w w2 p a len cap g f c l) := KL.out.step hpl hc2 hg2
      have hu := u8_of (x := 97 + x) (by omega) (by omega)
      have hO1 : OSl (w2.alloc (.cells #[.int .u8 (97 + x)] 5)) 1 g f l.length c (bys l) := OSl.below K2.out.out ((Below.refl _ _).alloc (Nat.le_refl _) _) K2.out.out.blk
      clear hx1 hc2 hg2
      go_wp2_with (at_builtin; refine wpList_append_os _ rfl _ _ 22 rfl 5 i0 _ 1 1 Try.underlying22 hi0 hz0 hz1 hz2 rfl (by omega) g f l.length c _ rfl hO1 ⟨w2.heap.size, 0, none⟩ 1 1 [.int .u8 (97 + x)] rfl rfl (World.news_of_block (cs := #[.int .u8 (97 + x)]) (t := 5) (fr := (0, 0)) (heap_alloc_new _ _)) (by simp [Value.oneCell']) (by unfold maxLen; omega) (by omega) ?_; intro g6 f6 c6 w6 hO6 hg6 hat6)
      have hO7 : OSl w6 1 g6 f6 (l.length + [UInt8.ofNat (97 + x).toNat].length) c6 (bys l ++ bys [UInt8.ofNat (97 + x).toNat]) := by
        have e : bys [UInt8.ofNat (97 + x).toNat] = [.int .u8 (97 + x)] := by simp only [bys, List.map_cons, List.map_nil, hu]
        rw [e]; exact hO6
      have K7 := K2.out.push hpl _ hO7 hg6 hat6
      go_roundw
      case rel => exact ⟨l ++ [UInt8.ofNat (97 + x).toNat], g6, f6, c6, M - 1, by go_num, by rw [List.length_append]; rfl, by rw [List.length_append]; simp; omega, K7⟩
      case measure => simp [intOf]; omega
end Go.Proofs.Ytgaibngaincahaa

/-
  The contract of the specification's l1Bend.
-/
namespace Go.Proofs.Ytgaibngaincahaa
set_option linter.unusedSimpArgs false
set_option linter.unusedVariables false
open Go.RowKit Go.Sort

/-- []byte(s). -/
theorem conv_bytes (w : World) (l : List UInt8) (hl : l.length ≤ 1000000) : ∃ cap W, (convert 9 22 (.string (sv l))).run Try.prog w = .ok (.slice (some ⟨w.heap.size, 0, none⟩) l.length cap) W ∧ OBy W w.heap.size 0 l.length cap l ∧ w.grownBy W none := by
  have h := run_bytes_of_string (P := Try.prog) w 9 22 5 (sv l) Try.underlying9 Try.underlying22 Try.underlying5
  have hsz := sv_size l
  rw [hsz] at h
  have hge := grownCap_ge w l.length 0 5
  have hcm : grownCap w l.length 0 5 ≤ maxLen := grownCap_le_maxLen w l.length 0 5 (by unfold maxLen; omega)
  generalize grownCap w l.length 0 5 = G at *
  have hrs : (bytesRow (sv l) G).size = G := by
    unfold bytesRow
    rw [Array.size_append, Array.size_map, Array.size_replicate, sv_size]
    have : (sv l).data.size = l.length := by simp [sv]
    omega
  refine ⟨G, _, h, ⟨by rw [bys_len]; omega, hge, hcm, by simp, fun i hi => ?_, fun i hi => ?_, fun i hi => ?_⟩, ⟨rfl, rfl, rfl, by simp, fun k hk _ => heap_alloc_old w.drew _ hk⟩⟩
  · have hi' : i < l.length := by omega
    rw [show (0 + i) = i by omega]
    have := World.cell?_alloc_mark w.drew (bytesRow (sv l) G) 5 ((bytesRow (sv l) G).size, (bytesRow (sv l) G).size + 1) i
    rw [show w.drew.heap.size = w.heap.size from rfl] at this
    rw [this, bytesRow_at (sv l) G i (by simp [sv]; exact hi')]
    simp [bys, sv, hi']
  · rw [show (0 + i) = i by omega]
    have := World.cell?_alloc_mark w.drew (bytesRow (sv l) G) 5 ((bytesRow (sv l) G).size, (bytesRow (sv l) G).size + 1) i
    rw [show w.drew.heap.size = w.heap.size from rfl] at this
    rw [this]
    have hi' : i < (bytesRow (sv l) G).size := by omega
    simp [hi']
  · rw [show (0 + i) = i by omega]
    have := World.frozen?_alloc_mark w.drew (bytesRow (sv l) G) 5 (bytesRow (sv l) G).size ((bytesRow (sv l) G).size + 1) i
    rw [show w.drew.heap.size = w.heap.size from rfl] at this
    rw [this]
    have hi' : ¬ (bytesRow (sv l) G).size ≤ i := by omega
    simp [hi']

theorem Lb.dr {w wr : World} {p : Nat} {a : Option Addr} {len cap g f c : Nat} {l : List UInt8} (h : Lb w wr p a len cap g f c l) (n : Nat) : Lb w (wr.drewN n) p a len cap g f c l := ⟨h.out.drewN n, h.new, h.cur, grown_drewN h.grown n⟩
theorem Lb.al {w wr : World} {p : Nat} {a : Option Addr} {len cap g f c : Nat} {l : List UInt8} (h : Lb w wr p a len cap g f c l) (o : Obj) : Lb w (wr.alloc o) p a len cap g f c l :=
  ⟨OSl.below h.out ((Below.refl _ _).alloc (Nat.le_refl _) _) h.out.blk, h.new, h.cur.alloc o, grown_more h.grown (World.grownBy_alloc wr o none) (by simp)⟩

/-- A new slice of bytes r beside the drawn one. -/
structure Nb (w X : World) (p : Nat) (a : Option Addr) (len cap gn on cn : Nat) (r : List UInt8) (g f c : Nat) (l : List UInt8) : Prop where
  b : Lb w X p a len cap g f c l
  out : OBy X gn on r.length cn r
  new : w.heap.size ≤ gn
  ne : gn ≠ g
theorem Nb.start {w wr : World} {p : Nat} {a : Option Addr} {len cap g f c : Nat} {l : List UInt8} (h : Lb w wr p a len cap g f c l) : Nb w ((wr.alloc (.cells #[] 5)).drewN 1) p a len cap wr.heap.size 0 0 [] g f c l :=
  ⟨(h.al _).dr 1, (oby_empty wr 5).drewN 1, h.grown.size, by have := h.out.blk; omega⟩
theorem Nb.step {w X Y : World} {p : Nat} {a : Option Addr} {len cap gn on cn g f c : Nat} {r l : List UInt8} (h : Nb w X p a len cap gn on cn r g f c l) (hpl : p < w.heap.size) (hc : CurAt Y p a len cap) (hg : X.grownBy Y (some p)) : Nb w Y p a len cap gn on cn r g f c l :=
  ⟨h.b.step hpl hc hg, OSl.grown h.out hg (by have := h.new; simp; omega), h.new, h.ne⟩
theorem Nb.al {w X : World} {p : Nat} {a : Option Addr} {len cap gn on cn g f c : Nat} {r l : List UInt8} (h : Nb w X p a len cap gn on cn r g f c l) (o : Obj) : Nb w (X.alloc o) p a len cap gn on cn r g f c l :=
  ⟨h.b.al o, OSl.below h.out ((Below.refl _ _).alloc (Nat.le_refl _) _) h.out.blk, h.new, h.ne⟩
theorem Nb.app {w X Y : World} {p : Nat} {a : Option Addr} {len cap gn on cn g f c g' o' c' m : Nat} {r q l : List UInt8} (h : Nb w X p a len cap gn on cn r g f c l) (hpl : p < w.heap.size) (hm : q.length = m) (hO : OSl Y 1 g' o' (r.length + m) c' (bys r ++ bys q)) (hg : X.grownBy Y (some gn)) (hat : g' = gn ∨ g' = X.heap.size) : Nb w Y p a len cap g' o' c' (r ++ q) g f c l := by
  have hs := h.b.grown.size
  have hb := h.b.out.blk
  have hn := h.new
  have hne := h.ne
  refine ⟨⟨OSl.grown h.b.out hg (by simp; omega), h.b.new, h.b.cur.grown hg (by simp; omega), grown_more h.b.grown hg (fun k hk => by cases hk; exact h.new)⟩, ?_, ?_, ?_⟩
  · rw [List.length_append, hm]; exact oby_app hO
  · rcases hat with e | e <;> omega
  · rcases hat with e | e <;> omega
theorem Nb.lb {w X : World} {p : Nat} {a : Option Addr} {len cap gn on cn g f c : Nat} {r l : List UInt8} (h : Nb w X p a len cap gn on cn r g f c l) : Lb w X p a len cap gn on cn r := ⟨h.out, h.new, h.b.cur, h.b.grown⟩

attribute [local irreducible] sv
end Go.Proofs.Ytgaibngaincahaa
