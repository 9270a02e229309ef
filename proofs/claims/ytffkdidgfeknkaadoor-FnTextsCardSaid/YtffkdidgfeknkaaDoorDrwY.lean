/-
  The model's draws of strings of at most 12 bytes. Conditions: none on the bytes they are drawn from.
-/
import Derived.Test.YtffkdidgfeknkaaDoorSrc
import Derived.Test.YtffkdidgfeknkaaDoorCodes
namespace Go.Proofs.YtffkdidgfeknkaaDoor
open Go.RowKit
set_option linter.unusedVariables false

theorem byte_ext {l : List Nat} {x : Int} {d : Nat} {w : World} {base : Nat} {v : Value} (hx : x = (d : Int)) (h : w.ownsRow base 5 1 v (l.length + 1) (l.map bc ++ [.int .u8 x])) :
    w.ownsRow base 5 1 v (l ++ [d]).length ((l ++ [d]).map bc) := by
  subst hx
  simpa [bc] using h

set_option maxRecDepth 100000 in
set_option maxHeartbeats 2000000 in
theorem word_c (g k : Nat) (w : World) (h : Src w g k) (hk : k ≤ 1000000) :
    Calls Tryd.prog 67 #[.pointer (some ⟨g, 0, none⟩), .int .i64 12] w fun e w' => ∃ s : ByteArray, e = .returned (.string s) ∧ s.size ≤ 12 ∧ Below g w w' := by
  obtain ⟨i0, hi, hz0, hz1, hzb⟩ := info_parts info8
  have hlt := h.lt
  have H := Lib.hid (h.below ((Below.refl w.heap.size w).alloc (Nat.le_refl _) (.cells #[] 5)) hlt)
  clear h
  go_enter Tryd.func67, Tryd.ntmps67
  go_wp2_with fail
  refine (pick_c g k 12 _ H.out (by omega) (by omega) (by omega)).mono ?_
  rintro e w2 ⟨x, rfl, hx0, hx1, hs2, hb2⟩
  obtain ⟨m, rfl⟩ := Int.eq_ofNat_of_zero_le hx0
  have hown2 : w2.ownsRow (g + 1) 5 1 (.slice (some ⟨w.heap.size, 0, none⟩) 0 0) ([] : List Nat).length (([] : List Nat).map bc) :=
    (World.ownsRow_made w #[] 0 (by omega) (by decide) rfl).kept hb2 (.inr (by simp [Value.ownBlock]; omega))
  have hbel2 : Below g w w2 := ((Below.refl g w).alloc (by omega) _).trans (only_below hb2 (Nat.le_refl _) (by simp; omega))
  have hsz2 : g + 1 ≤ w2.heap.size := hs2.lt
  have HS2 := Lib.hid hs2
  clear hs2 hb2
  go_wp2_with fail
  go_loopw [5, 6] (fun v i wr => ∃ (j : Nat) (l : List Nat), i = .int .i64 j ∧ l.length + j ≤ 11 ∧ wr.ownsRow (g + 1) 5 1 v l.length (l.map bc) ∧ Hid (Src wr g (k + 2 + l.length)) ∧ Below g w wr ∧ g + 1 ≤ wr.heap.size) (fun _ i _ => (intOf i).toNat)
  case atStart => exact ⟨m, [], rfl, by simp; omega, hown2, HS2, hbel2, hsz2⟩
  case round =>
    clear hown2 hbel2 HS2 hsz2
    obtain ⟨j, l, rfl, hj, hown, hs, hbel, hsz⟩ := hrel
    by_cases hpos : 0 < j
    · go_wp2_with fail
      refine (next_c g _ _ hs.out (by omega)).mono ?_
      rintro e w3 ⟨x, rfl, hx0, hx1, hs3, hb3⟩
      obtain ⟨d, rfl⟩ := Int.eq_ofNat_of_zero_le hx0
      have hd : ((d : Int) % 256) = (d : Int) := by omega
      have hown3 := hown.kept hb3 (.inr (fun e => by have := (hown.lt _ e).1; omega))
      have hbel3 : Below g w w3 := hbel.trans (only_below hb3 (Nat.le_refl _) (by omega))
      have hsz3 : g + 1 ≤ w3.heap.size := Nat.le_trans hsz hb3.size
      have HS3 := Lib.hid hs3
      clear hown hbel hs hsz hs3 hb3
      go_wp2_with (at_builtin; refine wpList_append_own _ rfl _ _ 22 rfl (g + 1) 5 i0 (.int .u8 0) 1 1 Tryd.underlying22 hi hz0 hz1 hzb rfl (by decide) _ _ _ rfl (hown3.alloc _) ⟨w3.heap.size, 0, none⟩ 1 1 [.int .u8 (d : Int)] rfl rfl ?c1 ?c2 ?c3 ?c4 ?c5 ?_)
      case c1 =>
        intro j u hj
        match j, hj with
        | 0, hj => simp at hj; subst hj; simp [Addr.add]
      case c2 => intro u hu; simp at hu; subst hu; rfl
      case c3 => unfold maxLen; omega
      case c4 => omega
      case c5 => simp; omega
      intro v' w4 hown4 hgrow _
      have hbg : Below (g + 1) w3 w4 := ((Below.refl (g + 1) w3).alloc hsz3 _).grown hgrow (by simp; omega) (fun k hk => (hown3.lt k hk).1)
      have HS4 := Lib.hid (HS3.out.below hbg (Nat.lt_succ_self g))
      have hbel4 := hbel3.trans (hbg.mono (by omega))
      have hsz4 := Nat.le_trans hsz3 hbg.size
      have hown5 := byte_ext (d := d) rfl hown4
      clear hown4 hgrow hbg hown3 hbel3 hsz3 HS3
      go_wp2_with fail
      go_roundw
      case rel => exact ⟨j - 1, l ++ [d], by go_num, by simp; omega, hown5, HS4.out.more (by simp; omega), hbel4, hsz4⟩
      case measure => simp [intOf]; omega
    · have hcv := run_own_string 22 9 Tryd.underlying22 Tryd.underlying5 Tryd.underlying9 _ hown
      have HL := Lib.hid (by omega : l.length ≤ 11)
      clear hown hs hsz
      go_wp2_with fail
      go_ret
      exact ⟨_, rfl, by rw [bstr_size]; have := HL.out; omega, hbel⟩

set_option maxRecDepth 100000 in
set_option maxHeartbeats 2000000 in
theorem l01DrawBytes_c (g k : Nat) (w : World) (h : Src w g k) (hk : k ≤ 100000) :
    Calls Tryd.prog 33 #[.pointer (some ⟨g, 0, none⟩)] w fun e w' => ∃ s : ByteArray, e = .returned (.string s) ∧ s.size ≤ 12 ∧ Below g w w' := by
  obtain ⟨i0, hi, hz0, hz1, hzb⟩ := info_parts info8
  have H := Lib.hid h
  clear h
  go_enter Tryd.func33, Tryd.ntmps33
  go_wp2_with fail
  refine (one_c g k 2 _ H.out (by omega) (by omega) (by omega)).mono ?_
  rintro e w1 ⟨t, rfl, hs1, hb1⟩
  have hlt := hs1.lt
  have hb0 : Below g w w1 := only_below hb1 (Nat.le_refl _) (by have := H.out.lt; omega)
  cases t with
  | true =>
    have HS := Lib.hid hs1
    clear hs1 hb1
    go_wp2_with fail
    refine (word_c g (k + 2) _ HS.out (by omega)).mono ?_
    rintro e w2 ⟨s, rfl, hs, hb2⟩
    go_wp2_with fail
    go_ret
    exact ⟨s, rfl, hs, hb0.trans hb2⟩
  | false =>
    have HS1 := Lib.hid (hs1.below ((Below.refl w1.heap.size w1).alloc (Nat.le_refl _) (.cells #[] 5)) hlt)
    have HB0 := Lib.hid hb0
    clear hs1 hb1 hb0
    go_wp2_with fail
    refine (pick_c g (k + 2) 12 _ HS1.out (by omega) (by omega) (by omega)).mono ?_
    rintro e w2 ⟨x, rfl, hx0, hx1, hs2, hb2⟩
    obtain ⟨m, rfl⟩ := Int.eq_ofNat_of_zero_le hx0
    have hown2 : w2.ownsRow (g + 1) 5 1 (.slice (some ⟨w1.heap.size, 0, none⟩) 0 0) ([] : List Nat).length (([] : List Nat).map bc) :=
      (World.ownsRow_made w1 #[] 0 (by omega) (by decide) rfl).kept hb2 (.inr (by simp [Value.ownBlock]; omega))
    have hbel2 : Below g w w2 := (HB0.out.alloc (by omega) _).trans (only_below hb2 (Nat.le_refl _) (by simp; omega))
    have hsz2 : g + 1 ≤ w2.heap.size := hs2.lt
    have HS2 := Lib.hid hs2
    clear hs2 hb2 HB0
    go_wp2_with fail
    go_loopw [3, 4] (fun v i wr => ∃ (j : Nat) (l : List Nat), i = .int .i64 j ∧ l.length + j ≤ 11 ∧ wr.ownsRow (g + 1) 5 1 v l.length (l.map bc) ∧ Hid (Src wr g (k + 4 + 2 * l.length)) ∧ Below g w wr ∧ g + 1 ≤ wr.heap.size) (fun _ i _ => (intOf i).toNat)
    case atStart => exact ⟨m, [], rfl, by simp; omega, hown2, HS2, hbel2, hsz2⟩
    case round =>
      clear hown2 hbel2 HS2 hsz2
      obtain ⟨j, l, rfl, hj, hown, hs, hbel, hsz⟩ := hrel
      by_cases hpos : 0 < j
      · have hnew : Below (g + 1) wr (wr.alloc (.cells #[.int .i64 10, .int .i64 32, .int .i64 97, .int .i64 98, .int .i64 122, .int .i64 48, .int .i64 57, .int .i64 102] 2)) := (Below.refl (g + 1) wr).alloc hsz _
        have hrow : Row (wr.alloc (.cells #[.int .i64 10, .int .i64 32, .int .i64 97, .int .i64 98, .int .i64 122, .int .i64 48, .int .i64 57, .int .i64 102] 2)) (wr.heap.size + 1) (some ⟨wr.heap.size, 0, none⟩) ([10, 32, 97, 98, 122, 48, 57, 102].map ic) :=
          fun j hj => ⟨wr.heap.size, 0, rfl, by omega, by rw [Nat.zero_add, cell_of_row _ _ j _ _ _ (heap_alloc_new wr _)]; simp [ic]⟩
        have HR := Lib.hid hrow
        have HS4 := Lib.hid (hs.out.below hnew (Nat.lt_succ_self g))
        have hown2 := hown.alloc (.cells #[.int .i64 10, .int .i64 32, .int .i64 97, .int .i64 98, .int .i64 122, .int .i64 48, .int .i64 57, .int .i64 102] 2)
        have hbel2 : Below g w (wr.alloc (.cells #[.int .i64 10, .int .i64 32, .int .i64 97, .int .i64 98, .int .i64 122, .int .i64 48, .int .i64 57, .int .i64 102] 2)) := hbel.trans (hnew.mono (by omega))
        have hsz2 : g + 1 ≤ (wr.alloc (.cells #[.int .i64 10, .int .i64 32, .int .i64 97, .int .i64 98, .int .i64 122, .int .i64 48, .int .i64 57, .int .i64 102] 2)).heap.size := Nat.le_trans hsz hnew.size
        have hgq := hsz
        clear hown hbel hs hsz hrow hnew
        go_wp2_with fail
        refine (among_c g _ (some ⟨wr.heap.size, 0, none⟩) 8 8 _ _ _ HS4.out (by omega) HR.out rfl (by omega) (by omega) (fun b off e => by injection e with e; injection e with e; omega)).mono ?_
        rintro e w3 ⟨x, rfl, hx, hs3, hb3⟩
        obtain ⟨d, rfl, hd⟩ : ∃ d : Nat, x = (d : Int) ∧ ((d : Int) % 256) = (d : Int) := by
          simp only [List.mem_cons, List.not_mem_nil, or_false] at hx
          rcases hx with rfl | rfl | rfl | rfl | rfl | rfl | rfl | rfl
          · exact ⟨10, rfl, rfl⟩
          · exact ⟨32, rfl, rfl⟩
          · exact ⟨97, rfl, rfl⟩
          · exact ⟨98, rfl, rfl⟩
          · exact ⟨122, rfl, rfl⟩
          · exact ⟨48, rfl, rfl⟩
          · exact ⟨57, rfl, rfl⟩
          · exact ⟨102, rfl, rfl⟩
        have hown3 := hown2.kept hb3 (.inr (fun e => by have := (hown2.lt _ e).1; omega))
        have hbel3 : Below g w w3 := hbel2.trans (only_below hb3 (Nat.le_refl _) (by omega))
        have hsz3 : g + 1 ≤ w3.heap.size := Nat.le_trans hsz2 hb3.size
        have HS3 := Lib.hid hs3
        clear hown2 hbel2 hsz2 hs3 hb3 hx HR HS4 hgq
        go_wp2_with (at_builtin; refine wpList_append_own _ rfl _ _ 22 rfl (g + 1) 5 i0 (.int .u8 0) 1 1 Tryd.underlying22 hi hz0 hz1 hzb rfl (by decide) _ _ _ rfl (hown3.alloc _) ⟨w3.heap.size, 0, none⟩ 1 1 [.int .u8 (d : Int)] rfl rfl ?c1 ?c2 ?c3 ?c4 ?c5 ?_)
        case c1 =>
          intro j u hj
          match j, hj with
          | 0, hj => simp at hj; subst hj; simp [Addr.add]
        case c2 => intro u hu; simp at hu; subst hu; rfl
        case c3 => unfold maxLen; omega
        case c4 => omega
        case c5 => simp; omega
        intro v' w4 hown4 hgrow _
        have hbg : Below (g + 1) w3 w4 := ((Below.refl (g + 1) w3).alloc hsz3 _).grown hgrow (by simp; omega) (fun k hk => (hown3.lt k hk).1)
        have HS4 := Lib.hid (HS3.out.below hbg (Nat.lt_succ_self g))
        have hbel4 := hbel3.trans (hbg.mono (by omega))
        have hsz4 := Nat.le_trans hsz3 hbg.size
        have hown5 := byte_ext (d := d) rfl hown4
        clear hown4 hgrow hbg hown3 hbel3 hsz3 HS3
        go_wp2_with fail
        go_roundw
        case rel => exact ⟨j - 1, l ++ [d], by go_num, by simp; omega, hown5, HS4.out.more (by simp; omega), hbel4, hsz4⟩
        case measure => simp [intOf]; omega
      · have hcv := run_own_string 22 9 Tryd.underlying22 Tryd.underlying5 Tryd.underlying9 _ hown
        have HL := Lib.hid (by omega : l.length ≤ 11)
        clear hown hs hsz
        go_wp2_with fail
        go_ret
        exact ⟨_, rfl, by rw [bstr_size]; have := HL.out; omega, hbel⟩

set_option maxRecDepth 100000 in
set_option maxHeartbeats 1000000 in
/-- R8Bytes: a string of at most 12 bytes. -/
theorem R8Bytes_c (A : Option Addr) (n c : Nat) (bs : List Nat) (w : World) (hrow : Row w w.heap.size A (bs.map bc)) (hz : bs.length = n) (hz2 : ∀ z ∈ bs, z < 256) (hn : n ≤ 140737488355328) :
    Calls Tryd.prog 8 #[.slice A n c] w fun e w' => ∃ s : ByteArray, e = .returned (.string s) ∧ s.size ≤ 12 ∧ Below w.heap.size w w' := by
  have HF := Lib.hid (l00From_c A n c bs w hrow hz hz2 hn)
  clear hrow hz hz2
  go_enter Tryd.func8, Tryd.ntmps8
  go_wp2_with fail
  refine HF.out.mono ?_
  rintro e w1 ⟨g, rfl, hg, hs1, hb1⟩
  have HS := Lib.hid hs1
  have HB := Lib.hid hb1
  have HG := Lib.hid hg
  clear hs1 hb1 hg
  go_wp2_with fail
  refine (l01DrawBytes_c g 0 _ HS.out (by omega)).mono ?_
  rintro e w2 ⟨s, rfl, hs, hb2⟩
  go_wp2_with fail
  go_ret
  exact ⟨s, rfl, hs, HB.out.trans (hb2.mono (by have := HG.out; omega))⟩
end Go.Proofs.YtffkdidgfeknkaaDoor
