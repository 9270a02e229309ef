/-
  The source of choices that the model draws from: what each step keeps, and between which bounds its choices lie. Conditions: fewer than 2^62 choices.
-/
import Derived.Test.YtffkdidgfeknkaaDoorKeep
import Derived.BigQuiet
import Derived.Deep.QuietTactic
import Derived.WalkLawsBesides
import Derived.WalkSmall
import Derived.Laws.BitsAllLaws
namespace Go.Proofs.YtffkdidgfeknkaaDoor
open Go.RowKit

/-- Block g is a source: its bytes read, its place is at most k. -/
def Src (w : World) (g k : Nat) : Prop := ∃ (A : Option Addr) (n c : Nat) (zs : List Nat) (i : Nat) (s : Int),
  w.heap[g]? = some (.cells #[.slice A n c, .int .i64 i, .int .u64 s] 104 (0, 0)) ∧ Row w g A (zs.map bc) ∧ zs.length = n ∧ (∀ z ∈ zs, z < 256) ∧ n ≤ 140737488355328 ∧ i ≤ k

theorem src_set {w : World} {g : Nat} {a b c x y : Value} {t : TypeId} (h : w.heap[g]? = some (.cells #[a, b, c] t (0, 0))) :
    ((w.setCell ⟨g, 1, none⟩ x).setCell ⟨g, 2, none⟩ y).heap[g]? = some (.cells #[a, x, y] t (0, 0)) := by
  have h1 := heap_setCell_same w g 1 _ _ x h
  have h2 := heap_setCell_same _ g 2 _ _ y h1
  simpa using h2
theorem below_set {B : Nat} {w : World} {g i : Nat} {x : Value} (h : B ≤ g) : Below B w (w.setCell ⟨g, i, none⟩ x) := (Below.refl B w).setCell (p := ⟨g, i, none⟩) h x

theorem src_after {w : World} {g k i : Nat} {A : Option Addr} {n c : Nat} {zs : List Nat} {s s' : Int} {a d : Nat} (hg : w.heap[g]? = some (.cells #[.slice A n c, .int .i64 i, .int .u64 s] 104 (0, 0)))
    (hrow : Row w g A (zs.map bc)) (hlen : zs.length = n) (hz : ∀ z ∈ zs, z < 256) (hn : n ≤ 140737488355328) (hi : i ≤ k) :
    Src ((((w.drewN a).setCell ⟨g, 1, none⟩ (.int .i64 ((i : Int) + 1))).setCell ⟨g, 2, none⟩ (.int .u64 s')).drewN d) g (k + 1) ∧
    w.grownBy ((((w.drewN a).setCell ⟨g, 1, none⟩ (.int .i64 ((i : Int) + 1))).setCell ⟨g, 2, none⟩ (.int .u64 s')).drewN d) (some g) := by
  have hb : Below g w ((((w.drewN a).setCell ⟨g, 1, none⟩ (.int .i64 ((i : Int) + 1))).setCell ⟨g, 2, none⟩ (.int .u64 s')).drewN d) :=
    below_drewN (((below_drewN (Below.refl g w) a).trans (below_set (Nat.le_refl g))).trans (below_set (Nat.le_refl g))) d
  refine ⟨⟨A, n, c, zs, i + 1, s', ?_, hrow.below hb (Nat.le_refl _), hlen, hz, hn, by omega⟩, only_drewN (only_trans (only_trans (only_drewN (only_refl w _) a) only_set) only_set) d⟩
  have h1 := src_set (w := w.drewN a) (x := .int .i64 ((i : Int) + 1)) (y := .int .u64 s') hg
  simpa using h1
theorem mask255 (x : Int) (h0 : 0 ≤ x) (h1 : x < 18446744073709551616) : 0 ≤ bits .and .u64 x 255 ∧ bits .and .u64 x 255 ≤ 255 := by
  rw [u64_and x 255 h0 h1 (by omega) (by omega)]
  have h : x.toNat &&& (255 : Int).toNat ≤ 255 := Nat.and_le_right
  omega
theorem shr40 (y : Int) : 0 ≤ IntKind.u64.wrap y / 1099511627776 ∧ IntKind.u64.wrap y / 1099511627776 < 18446744073709551616 := by
  have h := bounds_u64 (wf_wrap .u64 y)
  omega
theorem wrap_mask (y : Int) : 0 ≤ wrap64 (bits .and .u64 (IntKind.u64.wrap y / 1099511627776) 255) ∧ wrap64 (bits .and .u64 (IntKind.u64.wrap y / 1099511627776) 255) ≤ 255 := by
  have h := mask255 _ (shr40 y).1 (shr40 y).2
  rw [IntWalk.wrap64_in _ ⟨by omega, by omega⟩]
  exact h

set_option maxRecDepth 100000 in
set_option maxHeartbeats 1000000 in
theorem next_c (g k : Nat) (w : World) (h : Src w g k) (hk : k ≤ 1000000000000) :
    Calls Tryd.prog 64 #[.pointer (some ⟨g, 0, none⟩)] w fun e w' => ∃ x : Int, e = .returned (.int .i64 x) ∧ 0 ≤ x ∧ x ≤ 255 ∧ Src w' g (k + 1) ∧ w.grownBy w' (some g) := by
  obtain ⟨A, n, c, zs, i, s, hg, hrow, hlen, hz, hn, hi⟩ := h
  have hc0 : w.cell? ⟨g, 0, none⟩ = some (.slice A n c) := by rw [cell_of_row w g 0 _ _ _ hg]; rfl
  have hc1 : w.cell? ⟨g, 1, none⟩ = some (.int .i64 i) := by rw [cell_of_row w g 1 _ _ _ hg]; rfl
  have hc2 : w.cell? ⟨g, 2, none⟩ = some (.int .u64 s) := by rw [cell_of_row w g 2 _ _ _ hg]; rfl
  have hf1 : w.frozen? ⟨g, 1, none⟩ = false := by simp [World.frozen?, hg]
  have hf2 : w.frozen? ⟨g, 2, none⟩ = false := by simp [World.frozen?, hg]
  have HAF := Lib.hid (fun (s' : Int) (a d : Nat) => src_after (s' := s') (a := a) (d := d) hg hrow hlen hz hn hi)
  clear hg
  by_cases hlt : i < n
  · obtain ⟨b, off, hA, hb, hc⟩ := hrow i (by simp; omega)
    subst hA
    obtain ⟨z, hzi⟩ : ∃ z, zs[i]? = some z := ⟨_, List.getElem?_eq_getElem (by omega)⟩
    have hz256 := hz z (List.mem_of_getElem? hzi)
    rw [List.getElem?_map, hzi] at hc
    simp only [Option.map, bc] at hc
    clear hzi hz
    go_enter Tryd.func64, Tryd.ntmps64
    go_wp2
    go_quiet (fail)
    go_wp2
    go_quiet (fail)
    go_wp2
    go_quiet (fail)
    go_wp2
    go_ret
    exact ⟨z, rfl, by omega, by omega, HAF.out _ _ _⟩
  · clear hz
    go_enter Tryd.func64, Tryd.ntmps64
    go_wp2
    go_quiet (fail)
    go_wp2
    go_quiet (fail)
    go_wp2
    go_ret
    exact ⟨_, rfl, (wrap_mask _).1, (wrap_mask _).2, HAF.out _ _ _⟩

theorem Src.more {w : World} {g k k' : Nat} (h : Src w g k) (hk : k ≤ k') : Src w g k' := by
  obtain ⟨A, n, c, zs, i, s, h1, h2, h3, h4, h5, h6⟩ := h
  exact ⟨A, n, c, zs, i, s, h1, h2, h3, h4, h5, by omega⟩
theorem Src.lt {w : World} {g k : Nat} (h : Src w g k) : g < w.heap.size := by
  obtain ⟨A, n, c, zs, i, s, h1, _⟩ := h
  rcases Nat.lt_or_ge g w.heap.size with hlt | hge
  · exact hlt
  · simp [Array.getElem?_eq_none hge] at h1
theorem Src.below {w w' : World} {g k B : Nat} (h : Src w g k) (hb : Below B w w') (hB : g < B) : Src w' g k := by
  obtain ⟨A, n, c, zs, i, s, h1, h2, h3⟩ := h
  exact ⟨A, n, c, zs, i, s, (hb.block g hB).trans h1, h2.below hb (Nat.le_of_lt hB), h3⟩

set_option maxRecDepth 100000 in
set_option maxHeartbeats 1000000 in
theorem pick_c (g k : Nat) (n : Int) (w : World) (h : Src w g k) (hk : k ≤ 100000000000) (hn1 : 1 ≤ n) (hn2 : n ≤ 1000000000) :
    Calls Tryd.prog 31 #[.pointer (some ⟨g, 0, none⟩), .int .i64 n] w fun e w' => ∃ x : Int, e = .returned (.int .i64 x) ∧ 0 ≤ x ∧ x < n ∧ Src w' g (k + 2) ∧ w.grownBy w' (some g) := by
  have H := Lib.hid h
  clear h
  by_cases h1 : n ≤ 1
  · go_enter Tryd.func31, Tryd.ntmps31
    go_wp2_with fail
    go_ret
    exact ⟨0, rfl, by omega, by omega, H.out.more (by omega), only_refl _ _⟩
  · by_cases h2 : 200 < n
    · go_enter Tryd.func31, Tryd.ntmps31
      go_wp2_with fail
      refine (next_c g k _ H.out (by omega)).mono ?_
      rintro e w1 ⟨x, rfl, hx0, hx1, hs1, hb1⟩
      have HS1 := Lib.hid hs1
      clear hs1
      go_wp2_with fail
      refine (next_c g (k + 1) _ HS1.out (by omega)).mono ?_
      rintro e w2 ⟨y, rfl, hy0, hy1, hs2, hb2⟩
      have HS2 := Lib.hid hs2
      clear hs2
      have hxy : 0 ≤ x * 256 + y := by omega
      have hr := Int.emod_lt_of_pos (x * 256 + y) (by omega : 0 < n)
      have hr0 := Int.emod_nonneg (x * 256 + y) (by omega : n ≠ 0)
      go_wp2_with fail
      go_ret
      exact ⟨_, rfl, hr0, hr, HS2.out, only_trans hb1 hb2⟩
    · go_enter Tryd.func31, Tryd.ntmps31
      go_wp2_with fail
      refine (next_c g k _ H.out (by omega)).mono ?_
      rintro e w1 ⟨x, rfl, hx0, hx1, hs1, hb1⟩
      have HS1 := Lib.hid hs1
      clear hs1
      have hr := Int.emod_lt_of_pos x (by omega : 0 < n)
      have hr0 := Int.emod_nonneg x (by omega : n ≠ 0)
      go_wp2_with fail
      go_ret
      exact ⟨_, rfl, hr0, hr, HS1.out.more (by omega), hb1⟩

set_option maxHeartbeats 1000000 in
theorem one_c (g k : Nat) (n : Int) (w : World) (h : Src w g k) (hk : k ≤ 100000000000) (hn1 : 1 ≤ n) (hn2 : n ≤ 1000000000) :
    Calls Tryd.prog 65 #[.pointer (some ⟨g, 0, none⟩), .int .i64 n] w fun e w' => ∃ t : Bool, e = .returned (.bool t) ∧ Src w' g (k + 2) ∧ w.grownBy w' (some g) := by
  have H := Lib.hid h
  clear h
  go_enter Tryd.func65, Tryd.ntmps65
  go_wp2_with fail
  refine (pick_c g k n _ H.out hk hn1 hn2).mono ?_
  rintro e w1 ⟨x, rfl, hx0, hx1, hs1, hb1⟩
  have HS1 := Lib.hid hs1
  clear hs1
  go_wp2_with fail
  go_ret
  exact ⟨_, rfl, HS1.out, hb1⟩

set_option maxHeartbeats 1000000 in
theorem among_c (g k : Nat) (A : Option Addr) (n c B : Nat) (zs : List Int) (w : World) (h : Src w g k) (hk : k ≤ 100000000000) (hrow : Row w B A (zs.map ic)) (hz : zs.length = n) (hn1 : 1 ≤ n) (hn2 : n ≤ 1000)
    (hbl : ∀ b off, A = some ⟨b, off, none⟩ → b ≠ g) :
    Calls Tryd.prog 66 #[.pointer (some ⟨g, 0, none⟩), .slice A n c] w fun e w' => ∃ x : Int, e = .returned (.int .i64 x) ∧ x ∈ zs ∧ Src w' g (k + 2) ∧ w.grownBy w' (some g) := by
  have H := Lib.hid h
  have HB := Lib.hid hbl
  clear h hbl
  go_enter Tryd.func66, Tryd.ntmps66
  go_wp2_with fail
  refine (pick_c g k (n : Int) _ H.out hk (by omega) (by omega)).mono ?_
  rintro e w1 ⟨x, rfl, hx0, hx1, hs1, hb1⟩
  obtain ⟨j, rfl⟩ := Int.eq_ofNat_of_zero_le hx0
  obtain ⟨b, off, y, rfl, hb, hy, hc⟩ := hrow.int_at (k := j) (by omega)
  have hne := HB.out b off rfl
  have hc1 : w1.cell? ⟨b, off + j, none⟩ = some (.int .i64 y) := by
    rw [World.cell?_of_block (hb1.block b (cell_lt hc) (fun e => hne (by injection e)))]; exact hc
  have HS1 := Lib.hid hs1
  have HY := Lib.hid (List.mem_of_getElem? hy)
  clear hs1 hc hy hne
  go_wp2_with fail
  go_ret
  exact ⟨y, rfl, HY.out, HS1.out, hb1⟩

set_option maxHeartbeats 1000000 in
/-- l00From: a new source. -/
theorem l00From_c (A : Option Addr) (n c : Nat) (zs : List Nat) (w : World) (hrow : Row w w.heap.size A (zs.map bc)) (hz : zs.length = n) (hz2 : ∀ z ∈ zs, z < 256) (hn : n ≤ 140737488355328) :
    Calls Tryd.prog 30 #[.slice A n c] w fun e w' => ∃ g, e = .returned (.pointer (some ⟨g, 0, none⟩)) ∧ g = w.heap.size ∧ Src w' g 0 ∧ Below w.heap.size w w' := by
  go_enter Tryd.func30, Tryd.ntmps30
  go_wp2
  go_ret
  have hb : Below w.heap.size w (w.alloc (.cells #[.slice A n c, .int .i64 0, .int .u64 0] 104)) := (Below.refl _ _).alloc (Nat.le_refl _) _
  exact ⟨_, rfl, rfl, ⟨A, n, c, zs, 0, 0, heap_alloc_new w _, hrow.below hb (Nat.le_refl _), hz, hz2, hn, by omega⟩, hb⟩
end Go.Proofs.YtffkdidgfeknkaaDoor
