/-
  Several texts in one: Drt Drb.
-/
import Derived.Test.YtbnpliobigjapaaDoorGq
import Derived.Deep.RegionHeld3
/-
  Slices of bytes in memory of one's own; the contract of the specification's l1DrawText.
-/
namespace Go.Proofs.YtbnpliobigjapaaDoor
set_option linter.unusedSimpArgs false
set_option linter.unusedVariables false
open Go.RowKit Go.Sort

/-- The cells of bytes. -/
def bys (l : List UInt8) : List Value := l.map (fun b => Value.int .u8 (b.toNat : Int))
theorem bys_app (a b : List UInt8) : bys (a ++ b) = bys a ++ bys b := by simp [bys]
theorem bys_len (l : List UInt8) : (bys l).length = l.length := by simp [bys]
theorem bys_one (l : List UInt8) : ∀ u ∈ bys l, u.oneCell' = true := by
  intro u hu
  simp only [bys, List.mem_map] at hu
  obtain ⟨s, _, rfl⟩ := hu
  rfl
/-- A slice of one's own that holds the bytes l. -/
def OBy (w : World) (g off n cap : Nat) (l : List UInt8) : Prop := OSl w 1 g off n cap (bys l)
theorem OBy.length {w : World} {g off n cap : Nat} {l : List UInt8} (h : OBy w g off n cap l) : l.length = n := by have := h.len; rw [bys_len] at this; omega
theorem OBy.cellAt {w : World} {g off n cap : Nat} {l : List UInt8} (h : OBy w g off n cap l) {i : Nat} (hi : i < l.length) : w.cell? ⟨g, off + i, none⟩ = some (.int .u8 (l[i].toNat : Int)) := by
  have hl := h.length
  rw [h.cell i (by omega)]
  simp [bys, hi]
theorem OBy.below {w w' : World} {g off n cap B : Nat} {l : List UInt8} (h : OBy w g off n cap l) (hb : Below B w w') (hg : g < B) : OBy w' g off n cap l := OSl.below h hb hg
theorem OBy.drewN {w : World} {g off n cap : Nat} {l : List UInt8} (h : OBy w g off n cap l) (k : Nat) : OBy (w.drewN k) g off n cap l := OSl.drewN h k
theorem oby_empty (w : World) (T : TypeId) : OBy (w.alloc (.cells #[] T)) w.heap.size 0 0 0 [] :=
  ⟨rfl, Nat.le_refl _, Nat.zero_le _, by simp, fun i hi => by omega, fun i hi => by omega, fun i hi => by omega⟩
theorem oby_app {w : World} {g off n m cap : Nat} {l r : List UInt8} (h : OSl w 1 g off (n + m) cap (bys l ++ bys r)) : OBy w g off (n + m) cap (l ++ r) := by unfold OBy; rw [bys_app]; exact h
theorem OBy.set {w : World} {g off n cap : Nat} {l : List UInt8} (h : OBy w g off n cap l) {i : Nat} (hi : i < n) (b : UInt8) : OBy (w.setCell ⟨g, off + i, none⟩ (.int .u8 (b.toNat : Int))) g off n cap (l.set i b) := by
  have hl := h.length
  have hc := h.cellAt (i := i) (by omega)
  refine ⟨by rw [bys_len]; simp [hl], h.le, h.max, by simp [World.setCell]; exact h.blk, fun j hj => ?_, fun j hj => ?_, fun j hj => by rw [World.frozen?_setCell]; exact h.free j hj⟩
  · by_cases e : i = j
    · subst e
      rw [World.cell?_setCell_same _ _ _ hc]
      simp [bys, show i < l.length by omega]
    · rw [World.cell?_setCell_other _ _ _ _ (by simp [e]), h.cell j hj]
      simp [bys, e]
  · by_cases e : i = j
    · subst e
      rw [World.cell?_setCell_same _ _ _ hc]; rfl
    · rw [World.cell?_setCell_other _ _ _ _ (by simp [e])]; exact h.some j hj
theorem OBy.str {w : World} {g off cap : Nat} {l : List UInt8} (h : OBy w g off l.length cap l) : (convert 22 9 (.slice (some ⟨g, off, none⟩) l.length cap)).run Tryd.prog w = .ok (.string (sv l)) w :=
  run_convert_bytes_back (P := Tryd.prog) w 22 9 5 ⟨g, off, none⟩ cap l Tryd.underlying22 Tryd.underlying5 Tryd.underlying9 (fun j hj => by rw [add_lit0]; exact h.cellAt hj)
theorem OBy.take {w : World} {g off n cap : Nat} {l : List UInt8} (h : OBy w g off n cap l) {k : Nat} (hk : k ≤ n) : OBy w g off k cap (l.take k) := by
  have hl := h.length
  have hle := h.le
  refine ⟨by rw [bys_len, List.length_take]; omega, by omega, h.max, h.blk, fun i hi => ?_, h.some, h.free⟩
  rw [h.cell i (by omega)]
  simp [bys, show i < k by omega]
theorem bys_news {w : World} {g off n cap : Nat} {l : List UInt8} (h : OBy w g off n cap l) (k : Nat) (hk : k ≤ n) (j : Nat) (u : Value) (hu : (bys (l.drop k))[j]? = some u) : w.cell? ((⟨g, off + k, none⟩ : Addr).add j) = some u := by
  have hl := h.length
  have hj : j < (l.drop k).length := by
    have := (List.getElem?_eq_some_iff.1 hu).1
    rwa [bys_len] at this
  rw [List.length_drop] at hj
  rw [add_lit0, Nat.add_assoc, h.cellAt (i := k + j) (by omega)]
  simp only [bys, List.getElem?_map, List.getElem?_drop] at hu
  rw [List.getElem?_eq_getElem (by omega)] at hu
  simpa using hu
theorem bys_news0 {w : World} {g off n cap : Nat} {l : List UInt8} (h : OBy w g off n cap l) (k : Nat) (hk : k ≤ n) (j : Nat) (u : Value) (hu : (bys (l.take k))[j]? = some u) : w.cell? ((⟨g, off, none⟩ : Addr).add j) = some u := by
  have := bys_news (h.take hk) 0 (by omega) j u (by rw [List.drop_zero]; exact hu)
  rwa [Nat.add_zero] at this
/-- What a draw of bytes holds as the world goes on. -/
structure Lb (w wr : World) (p : Nat) (a : Option Addr) (len cap g f c : Nat) (l : List UInt8) : Prop where
  out : OBy wr g f l.length c l
  new : w.heap.size ≤ g
  cur : CurAt wr p a len cap
  grown : w.grownBy wr (some p)
theorem Lb.step {w wr wx : World} {p : Nat} {a : Option Addr} {len cap g f c : Nat} {l : List UInt8} (h : Lb w wr p a len cap g f c l) (hpl : p < w.heap.size) (hc : CurAt wx p a len cap) (hg : wr.grownBy wx (some p)) : Lb w wx p a len cap g f c l :=
  ⟨OSl.grown h.out hg (by have := h.new; simp; omega), h.new, hc, grown_trans h.grown hg⟩
theorem Lb.bvec {w wr : World} {p : Nat} {a : Option Addr} {len cap g f c : Nat} {l : List UInt8} {bs : Nat → Int} (h : Lb w wr p a len cap g f c l) (hv : BVec w a len bs) (hp : OffB a len p) : BVec wr a len bs := hv.grown h.grown hp
theorem Lb.push {w wr w6 : World} {p : Nat} {a : Option Addr} {len cap g f c g6 f6 c6 : Nat} {l r : List UInt8} (h : Lb w wr p a len cap g f c l) (hpl : p < w.heap.size) (o : Obj) (hO : OSl w6 1 g6 f6 (l.length + r.length) c6 (bys l ++ bys r)) (hg : (wr.alloc o).grownBy w6 (some g)) (hat : g6 = g ∨ g6 = (wr.alloc o).heap.size) : Lb w w6 p a len cap g6 f6 c6 (l ++ r) := by
  have hs := h.grown.size
  have hn := h.new
  refine ⟨by rw [List.length_append]; exact oby_app hO, ?_, ?_, ?_⟩
  · rcases hat with e | e
    · rw [e]; exact h.new
    · rw [e]; simp; omega
  · exact (h.cur.alloc o).grown hg (by simp; omega)
  · exact grown_more (grown_more h.grown (World.grownBy_alloc wr o none) (by simp)) hg (fun k hk => by cases hk; exact h.new)
theorem Lb.set {w wr : World} {p : Nat} {a : Option Addr} {len cap g f c i : Nat} {l : List UInt8} (h : Lb w wr p a len cap g f c l) (hpl : p < w.heap.size) (hi : i < l.length) (b : UInt8) : Lb w (wr.setCell ⟨g, f + i, none⟩ (.int .u8 (b.toNat : Int))) p a len cap g f c (l.set i b) :=
  ⟨by rw [List.length_set]; exact h.out.set hi b, h.new, h.cur.set (by have := h.new; omega) _ _, grown_setOwn h.grown h.new _ _⟩
theorem u8_of {x : Int} (h0 : 0 ≤ x) (h1 : x ≤ 255) : ((UInt8.ofNat x.toNat).toNat : Int) = x := by rw [UInt8.toNat_ofNat']; omega

attribute [local irreducible] sv
set_option maxRecDepth 100000 in
set_option maxHeartbeats 1600000 in
theorem drawText_any (p : Nat) (a : Option Addr) (len cap : Nat) (bs : Nat → Int) (most : Nat) (w : World) (hcur : CurAt w p a len cap) (hv : BVec w a len bs) (hp : OffB a len p) (hl : len ≤ 4096) (hmost : most ≤ 1000) :
    Calls Tryd.prog 32 #[.pointer (some ⟨p, 0, none⟩), .int .i64 (most : Int)] w fun e w' => ∃ l : List UInt8, l.length ≤ most ∧ e = .returned (.string (sv l)) ∧ CurAt w' p a len cap ∧ w.grownBy w' (some p) := by
  obtain ⟨i0, hi0, hz0, hz1, hz2⟩ := info_parts Tryd.info5
  have hpl := hcur.lt
  have L0 : Lb w (w.alloc (.cells #[] 5)) p a len cap w.heap.size 0 0 [] := ⟨oby_empty w 5, Nat.le_refl _, hcur.alloc _, World.grownBy_alloc w _ _⟩
  go_enter Tryd.func32, Tryd.ntmps32
  go_wp2_with fail
  refine (below_any p a len cap bs ((most : Int) + 1) _ L0.cur (L0.bvec hv hp) hp hl (by omega)).mono ?_
  rintro e w1 ⟨x, rfl, hx0, hx1, _, hc1, hg1⟩
  have hxm := hx1 (by omega)
  obtain ⟨N, hN⟩ : ∃ N : Nat, x = (N : Int) := ⟨x.toNat, by omega⟩
  subst hN
  have HL1 : Hid (Lb w w1 p a len cap w.heap.size 0 0 []) := L0.step hpl hc1 hg1
  clear L0 hx0 hx1 hc1 hg1
  go_wp2
  go_loopw [5, 6] (fun b n wr => ∃ (l : List UInt8) (g f c M : Nat), n = .int .i64 (M : Nat) ∧ b = .slice (some ⟨g, f, none⟩) l.length c ∧ l.length + M ≤ most ∧ Lb w wr p a len cap g f c l) (fun _ n _ => (intOf n).toNat)
  case atStart => exact ⟨[], w.heap.size, 0, 0, N, rfl, rfl, by simp; omega, HL1.out⟩
  case round =>
    obtain ⟨l, g, f, c, M, rfl, rfl, hlm, hL⟩ := hrel
    have KL : Hid (Lb w wr p a len cap g f c l) := hL
    clear hL HL1
    rcases Nat.eq_zero_or_pos M with h0 | hpos
    · subst h0
      go_wp2_with fail
      refine (once_any p a len cap bs 7 wr KL.out.cur (KL.out.bvec hv hp) hp hl (by omega)).mono ?_
      rintro e w2 ⟨x, rfl, hc2, hg2⟩
      have K2 : Hid (Lb w w2 p a len cap g f c l) := KL.out.step hpl hc2 hg2
      clear hc2 hg2
      by_cases hx : x = true ∧ 0 < l.length
      · obtain ⟨rfl, hlp⟩ := hx
        have hli : (0 : Int) < (l.length : Int) := by omega
        go_wp2_with fail
        refine (below_any p a len cap bs (l.length : Int) w2 K2.out.cur (K2.out.bvec hv hp) hp hl (by omega)).mono ?_
        rintro e w3 ⟨y, rfl, hy0, hy1, _, hc3, hg3⟩
        have hyl := hy1 (by omega)
        obtain ⟨k, hk⟩ : ∃ k : Nat, y = (k : Int) := ⟨y.toNat, by omega⟩
        subst hk
        have K3 : Hid (Lb w w3 p a len cap g f c l) := K2.out.step hpl hc3 hg3
        clear hy0 hy1 hc3 hg3
        go_wp2_with fail
        refine (byte_any p a len cap bs w3 K3.out.cur (K3.out.bvec hv hp) hp hl).mono ?_
        rintro e w4 ⟨z, rfl, hz00, hz255, hc4, hg4⟩
        have K4 : Hid (Lb w w4 p a len cap g f c l) := K3.out.step hpl hc4 hg4
        have hkl : k < l.length := by omega
        have c1 := K4.out.out.cellAt hkl
        have f1 := K4.out.out.free k (by have := K4.out.out.le; omega)
        have K5 := K4.out.set hpl hkl (UInt8.ofNat z.toNat)
        rw [u8_of hz00 hz255] at K5
        have hstr := K5.out.str
        rw [List.length_set] at hstr
        have hyi : (0 : Int) ≤ (k : Int) := by omega
        have K5' : Hid (CurAt (w4.setCell ⟨g, f + k, none⟩ (.int .u8 z)) p a len cap ∧ w.grownBy (w4.setCell ⟨g, f + k, none⟩ (.int .u8 z)) (some p)) := ⟨K5.cur, K5.grown⟩
        clear hc4 hg4 K5
        go_wp2
        go_ret
        exact ⟨l.set k (UInt8.ofNat z.toNat), by rw [List.length_set]; omega, rfl, K5'.out.1, K5'.out.2⟩
      · have hstr := K2.out.out.str
        have K2' : Hid (CurAt w2 p a len cap ∧ w.grownBy w2 (some p)) := ⟨K2.out.cur, K2.out.grown⟩
        cases x
        · clear hx
          go_wp2
          go_ret
          exact ⟨l, by omega, rfl, K2'.out.1, K2'.out.2⟩
        · have hli : l.length = 0 := by
            rcases Nat.eq_zero_or_pos l.length with h | h
            · exact h
            · exact absurd ⟨rfl, h⟩ hx
          rw [hli] at hstr
          rw [hli]
          clear hx
          go_wp2
          go_ret
          exact ⟨l, by omega, rfl, K2'.out.1, K2'.out.2⟩
    · have hMi : (0 : Int) < (M : Int) := by omega
      go_wp2_with fail
      refine (below_any p a len cap bs 3 wr KL.out.cur (KL.out.bvec hv hp) hp hl (by omega)).mono ?_
      rintro e w2 ⟨x, rfl, hx0, hx1, _, hc2, hg2⟩
      have hx3 := hx1 (by omega)
      have K2 : Hid (Lb w w2 p a len cap g f c l) := KL.out.step hpl hc2 hg2
      have hu := u8_of (x := 97 + x) (by omega) (by omega)
      have hO1 : OSl (w2.alloc (.cells #[.int .u8 (97 + x)] 5)) 1 g f l.length c (bys l) := OSl.below K2.out.out ((Below.refl _ _).alloc (Nat.le_refl _) _) K2.out.out.blk
      clear hx1 hc2 hg2
      go_wp2_with (at_builtin; refine wpList_append_os _ rfl _ _ 22 rfl 5 i0 _ 1 1 Tryd.underlying22 hi0 hz0 hz1 hz2 rfl (by omega) g f l.length c _ rfl hO1 ⟨w2.heap.size, 0, none⟩ 1 1 [.int .u8 (97 + x)] rfl rfl (World.news_of_block (cs := #[.int .u8 (97 + x)]) (t := 5) (fr := (0, 0)) (heap_alloc_new _ _)) (by simp [Value.oneCell']) (by unfold maxLen; omega) (by omega) ?_; intro g6 f6 c6 w6 hO6 hg6 hat6)
      have hO7 : OSl w6 1 g6 f6 (l.length + [UInt8.ofNat (97 + x).toNat].length) c6 (bys l ++ bys [UInt8.ofNat (97 + x).toNat]) := by
        have e : bys [UInt8.ofNat (97 + x).toNat] = [.int .u8 (97 + x)] := by simp only [bys, List.map_cons, List.map_nil, hu]
        rw [e]; exact hO6
      have K7 := K2.out.push hpl _ hO7 hg6 hat6
      go_roundw
      case rel => exact ⟨l ++ [UInt8.ofNat (97 + x).toNat], g6, f6, c6, M - 1, by go_num, by rw [List.length_append]; rfl, by rw [List.length_append]; simp; omega, K7⟩
      case measure => simp [intOf]; omega
end Go.Proofs.YtbnpliobigjapaaDoor

/-
  The contract of the specification's l1Bend.
-/
namespace Go.Proofs.YtbnpliobigjapaaDoor
set_option linter.unusedSimpArgs false
set_option linter.unusedVariables false
open Go.RowKit Go.Sort

/-- []byte(s). -/
theorem conv_bytes (w : World) (l : List UInt8) (hl : l.length ≤ 1000000) : ∃ cap W, (convert 9 22 (.string (sv l))).run Tryd.prog w = .ok (.slice (some ⟨w.heap.size, 0, none⟩) l.length cap) W ∧ OBy W w.heap.size 0 l.length cap l ∧ w.grownBy W none := by
  have h := run_bytes_of_string (P := Tryd.prog) w 9 22 5 (sv l) Tryd.underlying9 Tryd.underlying22 Tryd.underlying5
  have hsz := sv_size l
  rw [hsz] at h
  have hge := grownCap_ge w l.length 0 5
  have hcm : grownCap w l.length 0 5 ≤ maxLen := grownCap_le_maxLen w l.length 0 5 (by unfold maxLen; omega)
  generalize grownCap w l.length 0 5 = G at *
  have hrs : (bytesRow (sv l) G).size = G := by
    unfold bytesRow
    rw [Array.size_append, Array.size_map, Array.size_replicate, sv_size]
    have : (sv l).data.size = l.length := by simp [sv]
    omega
  refine ⟨G, _, h, ⟨by rw [bys_len]; omega, hge, hcm, by simp, fun i hi => ?_, fun i hi => ?_, fun i hi => ?_⟩, ⟨rfl, rfl, rfl, by simp, fun k hk _ => heap_alloc_old w.drew _ hk⟩⟩
  · have hi' : i < l.length := by omega
    rw [show (0 + i) = i by omega]
    have := World.cell?_alloc_mark w.drew (bytesRow (sv l) G) 5 ((bytesRow (sv l) G).size, (bytesRow (sv l) G).size + 1) i
    rw [show w.drew.heap.size = w.heap.size from rfl] at this
    rw [this, bytesRow_at (sv l) G i (by simp [sv]; exact hi')]
    simp [bys, sv, hi']
  · rw [show (0 + i) = i by omega]
    have := World.cell?_alloc_mark w.drew (bytesRow (sv l) G) 5 ((bytesRow (sv l) G).size, (bytesRow (sv l) G).size + 1) i
    rw [show w.drew.heap.size = w.heap.size from rfl] at this
    rw [this]
    have hi' : i < (bytesRow (sv l) G).size := by omega
    simp [hi']
  · rw [show (0 + i) = i by omega]
    have := World.frozen?_alloc_mark w.drew (bytesRow (sv l) G) 5 (bytesRow (sv l) G).size ((bytesRow (sv l) G).size + 1) i
    rw [show w.drew.heap.size = w.heap.size from rfl] at this
    rw [this]
    have hi' : ¬ (bytesRow (sv l) G).size ≤ i := by omega
    simp [hi']

theorem Lb.dr {w wr : World} {p : Nat} {a : Option Addr} {len cap g f c : Nat} {l : List UInt8} (h : Lb w wr p a len cap g f c l) (n : Nat) : Lb w (wr.drewN n) p a len cap g f c l := ⟨h.out.drewN n, h.new, h.cur, grown_drewN h.grown n⟩
theorem Lb.al {w wr : World} {p : Nat} {a : Option Addr} {len cap g f c : Nat} {l : List UInt8} (h : Lb w wr p a len cap g f c l) (o : Obj) : Lb w (wr.alloc o) p a len cap g f c l :=
  ⟨OSl.below h.out ((Below.refl _ _).alloc (Nat.le_refl _) _) h.out.blk, h.new, h.cur.alloc o, grown_more h.grown (World.grownBy_alloc wr o none) (by simp)⟩

/-- A new slice of bytes r beside the drawn one. -/
structure Nb (w X : World) (p : Nat) (a : Option Addr) (len cap gn on cn : Nat) (r : List UInt8) (g f c : Nat) (l : List UInt8) : Prop where
  b : Lb w X p a len cap g f c l
  out : OBy X gn on r.length cn r
  new : w.heap.size ≤ gn
  ne : gn ≠ g
theorem Nb.start {w wr : World} {p : Nat} {a : Option Addr} {len cap g f c : Nat} {l : List UInt8} (h : Lb w wr p a len cap g f c l) : Nb w ((wr.alloc (.cells #[] 5)).drewN 1) p a len cap wr.heap.size 0 0 [] g f c l :=
  ⟨(h.al _).dr 1, (oby_empty wr 5).drewN 1, h.grown.size, by have := h.out.blk; omega⟩
theorem Nb.step {w X Y : World} {p : Nat} {a : Option Addr} {len cap gn on cn g f c : Nat} {r l : List UInt8} (h : Nb w X p a len cap gn on cn r g f c l) (hpl : p < w.heap.size) (hc : CurAt Y p a len cap) (hg : X.grownBy Y (some p)) : Nb w Y p a len cap gn on cn r g f c l :=
  ⟨h.b.step hpl hc hg, OSl.grown h.out hg (by have := h.new; simp; omega), h.new, h.ne⟩
theorem Nb.al {w X : World} {p : Nat} {a : Option Addr} {len cap gn on cn g f c : Nat} {r l : List UInt8} (h : Nb w X p a len cap gn on cn r g f c l) (o : Obj) : Nb w (X.alloc o) p a len cap gn on cn r g f c l :=
  ⟨h.b.al o, OSl.below h.out ((Below.refl _ _).alloc (Nat.le_refl _) _) h.out.blk, h.new, h.ne⟩
theorem Nb.app {w X Y : World} {p : Nat} {a : Option Addr} {len cap gn on cn g f c g' o' c' m : Nat} {r q l : List UInt8} (h : Nb w X p a len cap gn on cn r g f c l) (hpl : p < w.heap.size) (hm : q.length = m) (hO : OSl Y 1 g' o' (r.length + m) c' (bys r ++ bys q)) (hg : X.grownBy Y (some gn)) (hat : g' = gn ∨ g' = X.heap.size) : Nb w Y p a len cap g' o' c' (r ++ q) g f c l := by
  have hs := h.b.grown.size
  have hb := h.b.out.blk
  have hn := h.new
  have hne := h.ne
  refine ⟨⟨OSl.grown h.b.out hg (by simp; omega), h.b.new, h.b.cur.grown hg (by simp; omega), grown_more h.b.grown hg (fun k hk => by cases hk; exact h.new)⟩, ?_, ?_, ?_⟩
  · rw [List.length_append, hm]; exact oby_app hO
  · rcases hat with e | e <;> omega
  · rcases hat with e | e <;> omega
theorem Nb.lb {w X : World} {p : Nat} {a : Option Addr} {len cap gn on cn g f c : Nat} {r l : List UInt8} (h : Nb w X p a len cap gn on cn r g f c l) : Lb w X p a len cap gn on cn r := ⟨h.out, h.new, h.b.cur, h.b.grown⟩

attribute [local irreducible] sv
set_option maxRecDepth 100000 in
set_option maxHeartbeats 3200000 in
theorem bend_any (p : Nat) (a : Option Addr) (len cap : Nat) (bs : Nat → Int) (l0 sg : List UInt8) (w : World) (hcur : CurAt w p a len cap) (hv : BVec w a len bs) (hp : OffB a len p) (hl : len ≤ 4096) (hl0 : l0.length ≤ 100000) (hsg : 0 < sg.length ∧ sg.length ≤ 100) :
    Calls Tryd.prog 41 #[.pointer (some ⟨p, 0, none⟩), .string (sv l0), .string (sv sg)] w fun e w' => ∃ l : List UInt8, l.length ≤ l0.length + 2 ∧ e = .returned (.string (sv l)) ∧ CurAt w' p a len cap ∧ w.grownBy w' (some p) := by
  obtain ⟨i0, hi0, hz0, hz1, hz2⟩ := info_parts Tryd.info5
  have hpl := hcur.lt
  have hsgz := sv_size sg
  obtain ⟨c0, W, hcv, hO, hgW⟩ := conv_bytes w l0 (by omega)
  have L0 : Lb w W p a len cap w.heap.size 0 c0 l0 := ⟨hO, Nat.le_refl _, hcur.grown hgW (by simp), ⟨hgW.os, hgW.tape, hgW.output, hgW.size, fun k hk _ => hgW.block k hk (by simp)⟩⟩
  go_enter Tryd.func41, Tryd.ntmps41
  go_wp2_with fail
  refine (below_any p a len cap bs 3 W L0.cur (L0.bvec hv hp) hp hl (by omega)).mono ?_
  rintro e w1 ⟨x, rfl, hx0, hx1, _, hc1, hg1⟩
  have hxm := hx1 (by omega)
  obtain ⟨N, hN⟩ : ∃ N : Nat, x = (N : Int) := ⟨x.toNat, by omega⟩
  subst hN
  have HL1 : Hid (Lb w w1 p a len cap w.heap.size 0 c0 l0) := L0.step hpl hc1 hg1
  clear L0 hx0 hx1 hc1 hg1 hcv hO hgW
  go_wp2
  go_loopw [7, 8] (fun b n wr => ∃ (l : List UInt8) (g f c M : Nat), n = .int .i64 (M : Nat) ∧ b = .slice (some ⟨g, f, none⟩) l.length c ∧ l.length + M ≤ l0.length + 2 ∧ Lb w wr p a len cap g f c l) (fun _ n _ => (intOf n).toNat)
  case atStart => exact ⟨l0, w.heap.size, 0, c0, N, rfl, rfl, by omega, HL1.out⟩
  case round =>
    obtain ⟨l, g, f, c, M, rfl, rfl, hlm, hL⟩ := hrel
    have KL : Hid (Lb w wr p a len cap g f c l) := hL
    clear hL HL1
    by_cases hgo : 0 < M ∧ 0 < l.length
    · obtain ⟨hM, hlp⟩ := hgo
      have hMi : (0 : Int) < (M : Int) := by omega
      have hli : (0 : Int) < (l.length : Int) := by omega
      go_wp2_with fail
      refine (below_any p a len cap bs (l.length : Int) wr KL.out.cur (KL.out.bvec hv hp) hp hl (by omega)).mono ?_
      rintro e w2 ⟨y, rfl, hy0, hy1, _, hc2, hg2⟩
      have hyl := hy1 (by omega)
      obtain ⟨k, hk⟩ : ∃ k : Nat, y = (k : Int) := ⟨y.toNat, by omega⟩
      subst hk
      have K2 : Hid (Lb w w2 p a len cap g f c l) := KL.out.step hpl hc2 hg2
      have hkl : k < l.length := by omega
      have k0 : (0 : Int) ≤ (k : Int) := by omega
      have kc : (k : Int) ≤ (c : Int) := by have := KL.out.out.le; omega
      clear hy0 hy1 hc2 hg2
      go_wp2_with fail
      refine (below_any p a len cap bs 4 w2 K2.out.cur (K2.out.bvec hv hp) hp hl (by omega)).mono ?_
      rintro e w3 ⟨z, rfl, hz00, hz4, _, hc3, hg3⟩
      have hz4' := hz4 (by omega)
      have K3 : Hid (Lb w w3 p a len cap g f c l) := K2.out.step hpl hc3 hg3
      clear hz4 hc3 hg3
      have hcases : z = 0 ∨ z = 1 ∨ z = 2 ∨ z = 3 := by omega
      rcases hcases with rfl | rfl | rfl | rfl
      · have hsi : (0 : Int) < (sg.length : Int) := by omega
        go_wp2_with fail
        refine (below_any p a len cap bs (sg.length : Int) w3 K3.out.cur (K3.out.bvec hv hp) hp hl (by omega)).mono ?_
        rintro e w4 ⟨q, rfl, hq0, hq1, _, hc4, hg4⟩
        have hql := hq1 (by omega)
        obtain ⟨s, hs⟩ : ∃ s : Nat, q = (s : Int) := ⟨q.toNat, by omega⟩
        subst hs
        have K4 : Hid (Lb w w4 p a len cap g f c l) := K3.out.step hpl hc4 hg4
        have hby := sv_byt (l := sg) (k := s) (by omega)
        have hb256 := byt_lt sg s
        have c1 := K4.out.out.cellAt hkl
        have f1 := K4.out.out.free k (by have := K4.out.out.le; omega)
        have K5 := K4.out.set hpl hkl (UInt8.ofNat (byt sg s))
        rw [show ((UInt8.ofNat (byt sg s)).toNat : Int) = (byt sg s : Int) by rw [UInt8.toNat_ofNat']; omega] at K5
        have HK5 : Hid (Lb w (w4.setCell ⟨g, f + k, none⟩ (.int .u8 (byt sg s : Int))) p a len cap g f c (l.set k (UInt8.ofNat (byt sg s)))) := K5
        have s0 : (0 : Int) ≤ (s : Int) := by omega
        clear hq0 hq1 hc4 hg4 K5
        go_wp2
        go_roundw
        case rel => exact ⟨l.set k (UInt8.ofNat (byt sg s)), g, f, c, M - 1, by go_num, by rw [List.length_set], by rw [List.length_set]; omega, HK5.out⟩
        case measure => simp [intOf]; omega
      · have HK5 : Hid (Lb w w3 p a len cap g f c (l.take k)) := ⟨by rw [List.length_take, show min k l.length = k by omega]; exact K3.out.out.take (by omega), K3.out.new, K3.out.cur, K3.out.grown⟩
        go_wp2
        go_roundw
        case rel => exact ⟨l.take k, g, f, c, M - 1, by go_num, by rw [List.length_take, show min k l.length = k by omega], by rw [List.length_take]; omega, HK5.out⟩
        case measure => simp [intOf]; omega
      · have hE : OSl ((w3.alloc (.cells #[] 5)).drewN 1) 1 w3.heap.size 0 0 0 [] := OSl.drewN (oby_empty w3 5) 1
        have bE : Below w3.heap.size w3 ((w3.alloc (.cells #[] 5)).drewN 1) := belowN ((Below.refl _ _).alloc (Nat.le_refl _) _)
        have hN1 := bys_news0 (K3.out.out.below bE K3.out.out.blk) k (by omega)
        have hL1 : (bys (l.take k)).length = k * 1 := by rw [bys_len, List.length_take]; omega
        have o1 := bys_one (l.take k)
        have o2 := bys_one (l.drop (k + 1))
        have g1 : 0 + k ≤ maxLen := by unfold maxLen; omega
        have g2 : (0 + k) * 1 ≤ 140737488355328 := by omega
        have k1 : (k : Int) + 1 ≤ (l.length : Int) := by omega
        have k2 : (0 : Int) ≤ (k : Int) + 1 := by omega
        have k3 : ((k : Int) + 1).toNat = k + 1 := by omega
        have hw1 : IntKind.i64.wrap ((k : Int) + 1) = (k : Int) + 1 := by rw [IntKind.wrap_i64]; omega
        have hlc : (l.length : Int) ≤ (c : Int) := by have := K3.out.out.le; omega
        have hL2 : (bys (l.drop (k + 1))).length = (l.length - (k + 1)) * 1 := by rw [bys_len, List.length_drop]; omega
        have g3 : k + (l.length - (k + 1)) ≤ maxLen := by unfold maxLen; omega
        have g4 : (k + (l.length - (k + 1))) * 1 ≤ 140737488355328 := by omega
        have hgl : g < w3.heap.size := K3.out.out.blk
        have hN2 : ∀ w5, ((w3.alloc (.cells #[] 5)).drewN 1).grownBy w5 (some w3.heap.size) → OBy w5 g f l.length c l := fun w5 h => OSl.grown (K3.out.out.below bE K3.out.out.blk) h (by simp; omega)
        have hfin : ∀ (w5 : World) (g5 : Nat) (w6 : World) (g6 o6 c6 : Nat), ((w3.alloc (.cells #[] 5)).drewN 1).grownBy w5 (some w3.heap.size) → (g5 = w3.heap.size ∨ g5 = ((w3.alloc (.cells #[] 5)).drewN 1).heap.size) → w5.grownBy w6 (some g5) → (g6 = g5 ∨ g6 = w5.heap.size) → OSl w6 1 g6 o6 (k + (l.length - (k + 1))) c6 (bys (l.take k) ++ bys (l.drop (k + 1))) → Lb w w6 p a len cap g6 o6 c6 (l.take k ++ l.drop (k + 1)) := fun w5 g5 w6 g6 o6 c6 h1 h2 h3 h4 h5 => by
          have hs3 := K3.out.grown.size
          have hs5 := h1.size
          have e1 : ((w3.alloc (.cells #[] 5)).drewN 1).heap.size = w3.heap.size + 1 := by show (w3.alloc (.cells #[] 5)).heap.size = _; simp
          have hn5 : w.heap.size ≤ g5 := by rcases h2 with h | h <;> omega
          have hn6 : w.heap.size ≤ g6 := by rcases h4 with h | h <;> omega
          have gw3 : w.grownBy ((w3.alloc (.cells #[] 5)).drewN 1) (some p) := grown_drewN (grown_more K3.out.grown (World.grownBy_alloc w3 _ none) (by simp)) 1
          have gw5 := grown_more gw3 h1 (fun q hq => by cases hq; omega)
          have gw6 := grown_more gw5 h3 (fun q hq => by cases hq; omega)
          refine ⟨?_, hn6, ?_, gw6⟩
          · have := oby_app h5
            rw [List.length_append, List.length_take, List.length_drop, show min k l.length = k by omega]
            exact this
          · have hc3 : CurAt ((w3.alloc (.cells #[] 5)).drewN 1) p a len cap := K3.out.cur.alloc _
            exact (hc3.grown h1 (by simp; omega)).grown h3 (by simp; omega)
        by_cases hck : c = k + 1
        · have hl1 : l.length = k + 1 := by have := K3.out.out.le; omega
          have hd0 : l.drop (k + 1) = [] := List.drop_eq_nil_of_le (by omega)
          rw [hd0] at hfin hL2 o2
          rw [hl1] at hfin hL2 g3 g4 k1
          rw [hl1]
          rw [Nat.sub_self] at hfin hL2 g3 g4
          subst hck
          have kc1 : (k : Int) ≤ (k : Int) + 1 := by omega
          clear kc hlc k1
          go_wp2_with fail
          go_region_held3 (fun _ => True)
            (trivial)
            (first
              | (refine step_append_os _ (by rfl) _ _ _ (by rfl) 5 i0 _ 1 1 Tryd.underlying22 hi0 hz0 hz1 hz2 rfl (by omega) w3.heap.size 0 0 0 [] (by rfl) hE ⟨g, f, none⟩ k (k + 1) (bys (l.take k)) (by rfl) hL1 hN1 o1 g1 g2 ?_; intro g5 o5 c5 w5 hO5 hg5 hat5; rw [Nat.zero_add, List.nil_append] at hO5; have hN5 : ∀ (j : Nat) (u : Value), (bys [])[j]? = some u → w5.cell? ((⟨g, f, none⟩ : Addr).add j) = some u := fun j u hu => nomatch hu; rw [Nat.zero_add])
              | (refine step_append_os _ (by rfl) _ _ _ (by rfl) 5 i0 _ 1 1 Tryd.underlying22 hi0 hz0 hz1 hz2 rfl (by omega) g5 o5 k c5 (bys (l.take k)) (by rfl) hO5 ⟨g, f, none⟩ 0 0 (bys []) (by rfl) hL2 hN5 o2 g3 g4 ?_; intro g6 o6 c6 w6 hO6 hg6 hat6))
          have HK6 : Hid (Lb w w6 p a len cap g6 o6 c6 (l.take k ++ [])) := hfin w5 g5 w6 g6 o6 c6 hg5 hat5 hg6 hat6 hO6
          rw [List.append_nil] at HK6
          clear hO5 hg5 hat5 hN5 hO6 hg6 hat6 hfin hN2 hE bE hN1
          go_wp2
          go_roundw
          case rel => exact ⟨l.take k, g6, o6, c6, M - 1, by go_num, by rw [List.length_take, show min k l.length = k by omega], by rw [List.length_take]; omega, HK6.out⟩
          case measure => simp [intOf]; omega
        · go_wp2_with fail
          go_region_held3 (fun _ => True)
            (trivial)
            (first
              | (refine step_append_os _ (by rfl) _ _ _ (by rfl) 5 i0 _ 1 1 Tryd.underlying22 hi0 hz0 hz1 hz2 rfl (by omega) w3.heap.size 0 0 0 [] (by rfl) hE ⟨g, f, none⟩ k c (bys (l.take k)) (by rfl) hL1 hN1 o1 g1 g2 ?_; intro g5 o5 c5 w5 hO5 hg5 hat5; rw [Nat.zero_add, List.nil_append] at hO5; have hN5 := bys_news (hN2 w5 hg5) (k + 1) hkl; rw [Nat.zero_add])
              | (refine step_append_os _ (by rfl) _ _ _ (by rfl) 5 i0 _ 1 1 Tryd.underlying22 hi0 hz0 hz1 hz2 rfl (by omega) g5 o5 k c5 (bys (l.take k)) (by rfl) hO5 ⟨g, f + (k + 1), none⟩ (l.length - (k + 1)) (c - (k + 1)) (bys (l.drop (k + 1))) (by rfl) hL2 hN5 o2 g3 g4 ?_; intro g6 o6 c6 w6 hO6 hg6 hat6))
          have HK6 : Hid (Lb w w6 p a len cap g6 o6 c6 (l.take k ++ l.drop (k + 1))) := hfin w5 g5 w6 g6 o6 c6 hg5 hat5 hg6 hat6 hO6
          clear hO5 hg5 hat5 hN5 hO6 hg6 hat6 hfin hN2 hE bE hN1
          go_wp2
          go_roundw
          case rel => exact ⟨l.take k ++ l.drop (k + 1), g6, o6, c6, M - 1, by go_num, by rw [List.length_append, List.length_take, List.length_drop, show min k l.length = k by omega], by rw [List.length_append, List.length_take, List.length_drop]; omega, HK6.out⟩
          case measure => simp [intOf]; omega
      · have k1 : (k : Int) ≤ (l.length : Int) := by omega
        have hlc : (l.length : Int) ≤ (c : Int) := by have := K3.out.out.le; omega
        have hck : ¬ c = k := by have := K3.out.out.le; omega
        have n0 := Nb.start K3.out
        have hL1 : (bys (l.take k)).length = k * 1 := by rw [bys_len, List.length_take]; omega
        have ht : (l.take k).length = k := by rw [List.length_take]; omega
        have hd : (l.drop k).length = l.length - k := by rw [List.length_drop]
        have o1 := bys_one (l.take k)
        have o2 := bys_one (l.drop k)
        have g1 : 0 + k ≤ maxLen := by unfold maxLen; omega
        have g2 : (0 + k) * 1 ≤ 140737488355328 := by omega
        have g3 : k + 1 ≤ maxLen := by unfold maxLen; omega
        have g4 : (k + 1) * 1 ≤ 140737488355328 := by omega
        have g5b : k + 1 + (l.length - k) ≤ maxLen := by unfold maxLen; omega
        have g6b : (k + 1 + (l.length - k)) * 1 ≤ 140737488355328 := by omega
        have hL2 : (bys (l.drop k)).length = (l.length - k) * 1 := by rw [bys_len, List.length_drop]; omega
        have hN1 := bys_news0 n0.b.out k (by omega)
        have hsgi : (sg.length : Int) ≤ 9223372036854775807 := by omega
        have hsg0 : (0 : Int) < (sg.length : Int) := by omega
        have hkl' : k ≤ l.length := by omega
        have app1 : ∀ (g5 o5 c5 : Nat) (w5 : World), OSl w5 1 g5 o5 (0 + k) c5 ([] ++ bys (l.take k)) → ((w3.alloc (.cells #[] 5)).drewN 1).grownBy w5 (some w3.heap.size) → (g5 = w3.heap.size ∨ g5 = ((w3.alloc (.cells #[] 5)).drewN 1).heap.size) → Nb w w5 p a len cap g5 o5 c5 (l.take k) g f c l := fun g5 o5 c5 w5 h1 h2 h3 => n0.app (q := l.take k) (m := k) hpl ht h1 h2 h3
        have out1 : ∀ (X : World) (g5 o5 c5 : Nat), Nb w X p a len cap g5 o5 c5 (l.take k) g f c l → OSl X 1 g5 o5 k c5 (bys (l.take k)) := fun X g5 o5 c5 h => by have := h.out; rw [ht] at this; exact this
        have app2 : ∀ (X Y : World) (g5 o5 c5 g7 o7 c7 : Nat) (b : UInt8) (x : Int), x = (b.toNat : Int) → Nb w X p a len cap g5 o5 c5 (l.take k) g f c l → OSl Y 1 g7 o7 (k + 1) c7 (bys (l.take k) ++ [.int .u8 x]) → X.grownBy Y (some g5) → (g7 = g5 ∨ g7 = X.heap.size) → Nb w Y p a len cap g7 o7 c7 (l.take k ++ [b]) g f c l := fun X Y g5 o5 c5 g7 o7 c7 b x hx h h1 h2 h3 => by subst hx; exact h.app (q := [b]) (m := 1) hpl rfl (by rw [ht]; exact h1) h2 h3
        have out2 : ∀ (X : World) (g5 o5 c5 : Nat) (b : UInt8), Nb w X p a len cap g5 o5 c5 (l.take k ++ [b]) g f c l → OSl X 1 g5 o5 (k + 1) c5 (bys (l.take k ++ [b])) := fun X g5 o5 c5 b h => by have := h.out; rw [List.length_append, ht] at this; exact this
        have hchr : Hid (∀ s, (byt sg s : Int) = ((UInt8.ofNat (byt sg s)).toNat : Int)) := fun s => by rw [UInt8.toNat_ofNat']; have := byt_lt sg s; omega
        go_wp2_with fail
        go_region_held3 (fun _ => True)
          (trivial)
          (first
            | (refine step_append_os _ (by rfl) _ _ _ (by rfl) 5 i0 _ 1 1 Tryd.underlying22 hi0 hz0 hz1 hz2 rfl (by omega) w3.heap.size 0 0 0 [] (by rfl) n0.out ⟨g, f, none⟩ k c (bys (l.take k)) (by rfl) hL1 hN1 o1 g1 g2 ?_; intro g5 o5 c5 w5 hO5 hg5 hat5; have n5 := app1 g5 o5 c5 w5 hO5 hg5 hat5; rw [Nat.zero_add])
            | (go_at_call 31; refine (below_any p a len cap bs (sg.length : Int) _ n5.b.cur (n5.b.bvec hv hp) hp hl hsgi).mono ?_; rintro e w6 ⟨q, rfl, hq0, hq1, _, hc6, hg6⟩; have n6 := n5.step hpl hc6 hg6; have hql := hq1 hsg0; obtain ⟨s, hs⟩ := Int.eq_ofNat_of_zero_le hq0; subst hs; have hsl := Int.ofNat_lt.1 hql; have hby := sv_byt hsl)
            | (refine step_append_os _ (by rfl) _ _ _ (by rfl) 5 i0 _ 1 1 Tryd.underlying22 hi0 hz0 hz1 hz2 rfl (by omega) g5 o5 k c5 (bys (l.take k)) (by rfl) (out1 _ _ _ _ (n6.al _)) ⟨w6.heap.size, 0, none⟩ 1 1 [.int .u8 (byt sg s : Int)] (by rfl) (by rfl) (World.news_of_block (cs := #[.int .u8 (byt sg s : Int)]) (t := 5) (fr := (0, 0)) (heap_alloc_new w6 _)) (by simp [Value.oneCell']) g3 g4 ?_; intro g7 o7 c7 w7 hO7 hg7 hat7; have n7 := app2 _ _ _ _ _ _ _ _ (UInt8.ofNat (byt sg s)) _ (hchr.out s) (n6.al _) hO7 hg7 hat7; have hN7 := bys_news n7.b.out k hkl')
            | (refine step_append_os _ (by rfl) _ _ _ (by rfl) 5 i0 _ 1 1 Tryd.underlying22 hi0 hz0 hz1 hz2 rfl (by omega) g7 o7 (k + 1) c7 (bys (l.take k ++ [UInt8.ofNat (byt sg s)])) (by rfl) (out2 _ _ _ _ _ n7) ⟨g, f + k, none⟩ (l.length - k) (c - k) (bys (l.drop k)) (by rfl) hL2 hN7 o2 g5b g6b ?_; intro g8 o8 c8 w8 hO8 hg8 hat8))
        have n8 := n7.app (q := l.drop k) (m := l.length - k) hpl hd (by rw [List.length_append, ht]; exact hO8) hg8 hat8
        have HK8 : Hid (Lb w w8 p a len cap g8 o8 c8 (l.take k ++ [UInt8.ofNat (byt sg s)] ++ l.drop k)) := n8.lb
        have hl8 : Hid ((l.take k ++ [UInt8.ofNat (byt sg s)] ++ l.drop k).length = k + 1 + (l.length - k)) := by rw [Hid, List.length_append, List.length_append, ht, hd]; rfl
        clear n0 n5 n6 n7 n8 hN1 hN7 hO5 hg5 hat5 hO7 hg7 hat7 hO8 hg8 hat8 app1 app2 out1 out2 hchr hc6 hg6 ht hd hL1 hL2 o1 o2 hby hsl hql hq0 hq1
        obtain ⟨nn, hnn⟩ : ∃ nn, k + 1 + (l.length - k) = nn := ⟨_, rfl⟩
        have hnn2 : nn = l.length + 1 := by omega
        rw [hnn] at hl8 ⊢
        have HNN : Hid (nn = l.length + 1) := hnn2
        clear hnn hnn2
        go_wp2
        go_roundw
        case rel => exact ⟨l.take k ++ [UInt8.ofNat (byt sg s)] ++ l.drop k, g8, o8, c8, M - 1, by go_num, by rw [hl8.out], by rw [hl8.out, HNN.out]; omega, HK8.out⟩
        case measure => simp [intOf]; omega
    · have hstr := KL.out.out.str
      have K2' : Hid (CurAt wr p a len cap ∧ w.grownBy wr (some p)) := ⟨KL.out.cur, KL.out.grown⟩
      rcases Nat.eq_zero_or_pos M with h0 | h0
      · subst h0
        clear hgo
        go_wp2
        go_ret
        exact ⟨l, by omega, rfl, K2'.out.1, K2'.out.2⟩
      · have hli : l.length = 0 := by
          rcases Nat.eq_zero_or_pos l.length with h | h
          · exact h
          · exact absurd ⟨h0, h⟩ hgo
        have hMi : (0 : Int) < (M : Int) := by omega
        rw [hli] at hstr
        rw [hli]
        clear hgo
        go_wp2
        go_ret
        exact ⟨l, by omega, rfl, K2'.out.1, K2'.out.2⟩
end Go.Proofs.YtbnpliobigjapaaDoor
