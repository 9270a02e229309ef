/-
  The model's draws of lists: they can be coded and are short. Conditions: none on the bytes they are drawn from.
-/
import Derived.Test.YtffkdidgfeknkaaDoorSrc
import Derived.Test.YtffkdidgfeknkaaDoorCoded
namespace Go.Proofs.YtffkdidgfeknkaaDoor
open Go.RowKit

set_option maxRecDepth 100000 in
set_option maxHeartbeats 1000000 in
theorem drawSmall_c (g k : Nat) (w : World) (h : Src w g k) (hk : k ≤ 1000000000) :
    Calls Tryd.prog 32 #[.pointer (some ⟨g, 0, none⟩)] w fun e w' => ∃ x : Int, e = .returned (.int .i64 x) ∧ InC x ∧ Src w' g (k + 6) ∧ w.grownBy w' (some g) := by
  have H := Lib.hid h
  clear h
  go_enter Tryd.func32, Tryd.ntmps32
  go_wp2_with fail
  refine (pick_c g k 300 _ H.out (by omega) (by omega) (by omega)).mono ?_
  rintro e w1 ⟨x, rfl, hx0, hx1, hs1, hb1⟩
  have HS1 := Lib.hid hs1
  clear hs1
  go_wp2_with fail
  refine (one_c g (k + 2) 6 _ HS1.out (by omega) (by omega) (by omega)).mono ?_
  rintro e w2 ⟨t, rfl, hs2, hb2⟩
  have HS2 := Lib.hid hs2
  clear hs2
  cases t with
  | false =>
    go_wp2_with fail
    go_ret
    exact ⟨_, rfl, ⟨by omega, by omega⟩, HS2.out.more (by omega), only_trans hb1 hb2⟩
  | true =>
    have hlt := HS2.out.lt
    go_wp2_with fail
    have hal := World.grownBy_alloc w2 (.cells #[.int .i64 (-1000000000000000), .int .i64 1000000000000000, .int .i64 63, .int .i64 64, .int .i64 (-64), .int .i64 (-65)] 2) (some g)
    have hsrc := HS2.out.below (only_below (g := w2.heap.size) (World.grownBy_alloc w2 (.cells #[.int .i64 (-1000000000000000), .int .i64 1000000000000000, .int .i64 63, .int .i64 64, .int .i64 (-64), .int .i64 (-65)] 2) _) (Nat.le_refl _) (Nat.le_refl _)) hlt
    have hrow : Row (w2.alloc (.cells #[.int .i64 (-1000000000000000), .int .i64 1000000000000000, .int .i64 63, .int .i64 64, .int .i64 (-64), .int .i64 (-65)] 2)) (w2.heap.size + 1) (some ⟨w2.heap.size, 0, none⟩) ([-1000000000000000, 1000000000000000, 63, 64, -64, -65].map ic) :=
      fun j hj => ⟨w2.heap.size, 0, rfl, by omega, by rw [Nat.zero_add, cell_of_row _ _ j _ _ _ (heap_alloc_new w2 _)]; simp [ic]⟩
    refine (among_c g (k + 4) (some ⟨w2.heap.size, 0, none⟩) 6 6 _ _ _ hsrc (by omega) hrow rfl (by omega) (by omega) (fun b off e => by injection e with e; injection e with e; omega)).mono ?_
    rintro e w3 ⟨y, rfl, hy, hs3, hb3⟩
    have hyc : InC y := by
      simp only [List.mem_cons, List.not_mem_nil, or_false] at hy
      rcases hy with rfl | rfl | rfl | rfl | rfl | rfl <;> decide
    have HS3 := Lib.hid hs3
    have HY := Lib.hid hyc
    have HB := Lib.hid (only_trans (only_trans hb1 hb2) (only_trans hal hb3))
    clear hs3 hy hyc hsrc hrow hal hb1 hb2 hb3
    go_wp2_with fail
    go_ret
    exact ⟨y, rfl, HY.out, HS3.out, HB.out⟩

theorem row_ext {zs : List Int} {x : Int} {w : World} {base : Nat} {v : Value} (h : w.ownsRow base 2 1 v (zs.length + 1) (zs.map ic ++ [.int .i64 x])) :
    w.ownsRow base 2 1 v (zs ++ [x]).length ((zs ++ [x]).map ic) := by
  simpa [ic] using h
theorem inC_ext {zs : List Int} {x : Int} (h : ∀ z ∈ zs, InC z) (hx : InC x) : ∀ z ∈ zs ++ [x], InC z := by
  intro z hz
  rcases List.mem_append.1 hz with hz | hz
  · exact h z hz
  · rw [List.mem_singleton.1 hz]; exact hx

set_option maxRecDepth 100000 in
set_option maxHeartbeats 2000000 in
theorem R8List_c (A : Option Addr) (n c : Nat) (bs : List Nat) (w : World) (hrow : Row w w.heap.size A (bs.map bc)) (hz : bs.length = n) (hz2 : ∀ z ∈ bs, z < 256) (hn : n ≤ 140737488355328) :
    Calls Tryd.prog 7 #[.slice A n c] w fun e w' => ∃ (v : Value) (zs : List Int), e = .returned v ∧ zs.length ≤ 7 ∧ (∀ z ∈ zs, InC z) ∧ w'.ownsRow w.heap.size 2 1 v zs.length (zs.map ic) ∧ Below w.heap.size w w' := by
  obtain ⟨i0, hi, hz0, hz1, hzb⟩ := info_parts info64
  have HF := Lib.hid (l00From_c A n c bs w hrow hz hz2 hn)
  clear hrow hz hz2
  go_enter Tryd.func7, Tryd.ntmps7
  go_wp2_with fail
  refine HF.out.mono ?_
  rintro e w1 ⟨g, rfl, hg, hs1, hb1⟩
  have hlt := hs1.lt
  have HS1 := Lib.hid (hs1.below ((Below.refl w1.heap.size w1).alloc (Nat.le_refl _) (.cells #[] 2)) hlt)
  have hgw := hg
  have HGW := Lib.hid hgw
  clear hs1 hg hgw
  go_wp2_with fail
  refine (pick_c g 0 8 _ HS1.out (by omega) (by omega) (by omega)).mono ?_
  rintro e w2 ⟨x, rfl, hx0, hx1, hs2, hb2⟩
  obtain ⟨m, rfl⟩ := Int.eq_ofNat_of_zero_le hx0
  have hown2 : w2.ownsRow (g + 1) 2 1 (.slice (some ⟨w1.heap.size, 0, none⟩) 0 0) ([] : List Int).length (([] : List Int).map ic) :=
    (World.ownsRow_made w1 #[] 0 (by omega) (by decide) rfl).kept hb2 (.inr (by simp [Value.ownBlock]; omega))
  have hbel2 : Below w.heap.size w w2 := by
    have h1 : Below w.heap.size w (w1.alloc (.cells #[] 2)) := hb1.alloc hb1.size _
    exact h1.trans (only_below hb2 (by have := HGW.out; omega) (by have := h1.size; omega))
  have HS2 := Lib.hid hs2
  clear hs2 hb2 hb1
  go_wp2_with fail
  go_loopw [4, 5] (fun v i wr => ∃ (k : Nat) (zs : List Int), i = .int .i64 k ∧ zs.length + k ≤ 7 ∧ Hid (∀ z ∈ zs, InC z) ∧ wr.ownsRow (g + 1) 2 1 v zs.length (zs.map ic) ∧ Hid (Src wr g (2 + 6 * zs.length)) ∧ Below w.heap.size w wr ∧ g + 1 ≤ wr.heap.size) (fun _ i _ => (intOf i).toNat)
  case atStart => exact ⟨m, [], rfl, by simp; omega, by intro z hz; simp at hz, hown2, HS2.out, hbel2, by have := HS2.out.lt; omega⟩
  case round =>
    clear hown2 hbel2 HS2
    obtain ⟨k, zs, rfl, hk, hin, hown, hs, hbel, hsz⟩ := hrel
    by_cases hpos : 0 < k
    · go_wp2_with fail
      refine (drawSmall_c g _ _ hs.out (by omega)).mono ?_
      rintro e w3 ⟨x, rfl, hx, hs3, hb3⟩
      have hown3 := hown.kept hb3 (.inr (fun e => by have := (hown.lt _ e).1; omega))
      have hbel3 : Below w.heap.size w w3 := hbel.trans (only_below hb3 (by have := HGW.out; omega) hbel.size)
      have hsz3 : g + 1 ≤ w3.heap.size := Nat.le_trans hsz hb3.size
      have HX := Lib.hid hx
      have HS3 := Lib.hid hs3
      clear hown hbel hs hsz hx hs3 hb3
      go_wp2_with (at_builtin; refine wpList_append_own _ rfl _ _ 24 rfl (g + 1) 2 i0 (.int .i64 0) 1 8 Tryd.underlying24 hi hz0 hz1 hzb rfl (by decide) _ _ _ rfl (hown3.alloc _) ⟨w3.heap.size, 0, none⟩ 1 1 [.int .i64 x] rfl rfl ?c1 ?c2 ?c3 ?c4 ?c5 ?_)
      case c1 =>
        intro j u hj
        match j, hj with
        | 0, hj => simp at hj; subst hj; simp [Addr.add]
      case c2 => intro u hu; simp at hu; subst hu; rfl
      case c3 => unfold maxLen; omega
      case c4 => omega
      case c5 => simp; omega
      intro v' w4 hown4 hgrow _
      have hbg : Below (g + 1) w3 w4 := ((Below.refl (g + 1) w3).alloc hsz3 _).grown hgrow (by simp; omega) (fun k hk => (hown3.lt k hk).1)
      have HS4 := Lib.hid (HS3.out.below hbg (Nat.lt_succ_self g))
      have hbel4 := hbel3.trans (hbg.mono (by have := HGW.out; omega))
      have hsz4 := Nat.le_trans hsz3 hbg.size
      have hown5 := row_ext hown4
      clear hown4 hgrow hbg hown3 hbel3 hsz3 HS3
      go_wp2_with fail
      go_roundw
      case rel => exact ⟨k - 1, zs ++ [x], by go_num, by simp; omega, inC_ext hin.out HX.out, hown5, HS4.out.more (by simp; omega), hbel4, hsz4⟩
      case measure => simp [intOf]; omega
    · go_wp2_with fail
      go_ret
      refine ⟨_, zs, rfl, by omega, hin.out, ?_, hbel⟩
      exact own_less hown (by have := HGW.out; omega)
end Go.Proofs.YtffkdidgfeknkaaDoor
