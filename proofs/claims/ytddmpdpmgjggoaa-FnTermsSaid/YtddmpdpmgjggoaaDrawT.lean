/-
  The model's draws of a term and of values with small numbers. Conditions: none on the bytes they are drawn from.
-/
import Derived.Test.YtddmpdpmgjggoaaSrc
import Derived.Test.YtddmpdpmgjggoaaMakeS
import Derived.Test.YtddmpdpmgjggoaaEval
import Derived.Test.YtddmpdpmgjggoaaBlk
namespace Go.Proofs.Ytddmpdpmgjggoaa
set_option linter.unusedVariables false
open Go.RowKit

theorem tmB_trim {c : Int} {zs : List Int} (hl : zs.length ≤ 10) (h1 : -1000000 ≤ c) (h2 : c ≤ 1000000) (h : ∀ z ∈ zs, -1000000 ≤ z ∧ z ≤ 1000000) : tmB (c, zs.take (trimN zs)) = true := by
  have ht := trimN_is zs
  generalize trimN zs = n at ht
  rcases n with _ | k
  · exact tmB_empty (by simp) h1 h2
  · obtain ⟨a, _, b⟩ := ht
    rcases b with b | ⟨x, hx, h0⟩
    · omega
    · rw [Nat.add_sub_cancel] at hx
      have hlen : (zs.take (k + 1)).length = k + 1 := by rw [List.length_take]; omega
      rw [tmB_rest (t := (c, zs.take (k + 1))) (k := k) (x := x) hlen (by show (zs.take (k + 1)).length ≤ 10; omega) (by show (zs.take (k + 1))[k]? = some x; rw [List.getElem?_take, if_pos (by omega)]; exact hx) h0 h1 h2]
      exact decide_eq_true fun z hz => h z (List.mem_of_mem_take hz)
/-- A valid term with small numbers. -/
def SmallT (m k : Int) (t : Int × List Int) : Prop := tmB t = true ∧ -m ≤ t.1 ∧ t.1 ≤ m ∧ ∀ z ∈ t.2, -k ≤ z ∧ z ≤ k
theorem mk_small {m k c : Int} {zs : List Int} (hm : m ≤ 1000000) (hk : k ≤ 1000000) (hl : zs.length ≤ 10) (h1 : -m ≤ c) (h2 : c ≤ m) (h : ∀ z ∈ zs, -k ≤ z ∧ z ≤ k) : (mkL c zs).2 = true ∧ SmallT m k (mkL c zs).1 := by
  have ht := tmB_trim (c := c) hl (by omega) (by omega) (fun z hz => by have := h z hz; omega)
  rw [mkL_yes ht]
  exact ⟨rfl, ht, h1, h2, fun z hz => h z (List.mem_of_mem_take hz)⟩
theorem in_ext {lo hi x : Int} {zs : List Int} (h : ∀ z ∈ zs, lo ≤ z ∧ z ≤ hi) (h1 : lo ≤ x) (h2 : x ≤ hi) : ∀ z ∈ zs ++ [x], lo ≤ z ∧ z ≤ hi := by
  intro z hz
  rcases List.mem_append.1 hz with hz | hz
  · exact h z hz
  · rw [List.mem_singleton.1 hz]; exact ⟨h1, h2⟩
theorem own_block {w : World} {base n : Nat} {e : TypeId} {v : Value} {xs : List Value} (h : w.ownsRow base e 1 v n xs) (hn : 0 < n) : ∃ g c : Nat, v = .slice (some ⟨g, 0, none⟩) n c ∧ n ≤ c := by
  rcases h.2 with ⟨_, h2⟩ | ⟨g, cap, cur, h1, _, _, h4, _⟩
  · omega
  · exact ⟨g, cap, h1, h4⟩
theorem row_ext' {zs : List Int} {x : Int} {w : World} {base n : Nat} {v : Value} (hl : zs.length = n) (h : w.ownsRow base 2 1 v (n + 1) (zs.map ic ++ [.int .i64 x])) :
    w.ownsRow base 2 1 v (n + 1) ((zs ++ [x]).map ic) := by
  simpa [ic] using h

set_option maxRecDepth 100000 in
set_option maxHeartbeats 2000000 in
theorem B10Values_c (A : Option Addr) (n c : Nat) (bs : List Nat) (w : World) (hrow : Row w w.heap.size A (bs.map bc)) (hz : bs.length = n) (hz2 : ∀ z ∈ bs, z < 256) (hn : n ≤ 140737488355328) :
    Calls Try.prog 13 #[.slice A n c] w fun e w' => ∃ (g' c' : Nat) (vs : List Int), e = .returned (.slice (some ⟨g', 0, none⟩) 10 c') ∧ vs.length = 10 ∧ (∀ z ∈ vs, -6 ≤ z ∧ z ≤ 6) ∧ OwnL w' w.heap.size w'.heap.size (some ⟨g', 0, none⟩) 10 c' vs ∧ Below w.heap.size w w' := by
  obtain ⟨i0, hi, hz0, hz1, hzb⟩ := info_parts info64
  have HF := Lib.hid (l00From_c A n c bs w hrow hz hz2 hn)
  clear hrow hz hz2
  go_enter Try.func13, Try.ntmps13
  go_wp2_with fail
  refine HF.out.mono ?_
  rintro e w1 ⟨g, rfl, hg, hs1, hb1⟩
  have hlt := hs1.lt
  have HS1 := Lib.hid (hs1.below ((Below.refl w1.heap.size w1).alloc (Nat.le_refl _) (.cells #[] 2)) hlt)
  have HGW := Lib.hid hg
  have hbel2 : Below w.heap.size w (w1.alloc (.cells #[] 2)) := hb1.alloc hb1.size _
  have hown2 : (w1.alloc (.cells #[] 2)).ownsRow (g + 1) 2 1 (.slice (some ⟨w1.heap.size, 0, none⟩) 0 0) 0 (([] : List Int).map ic) :=
    own_less (own_empty w1 2) (by omega)
  clear hs1 hg hb1
  go_wp2_with fail
  go_loopw [4, 5] (fun v i wr => ∃ (k g' c' : Nat) (zs : List Int), k ≤ 10 ∧ i = .int .i64 k ∧ v = .slice (some ⟨g', 0, none⟩) k c' ∧ Hid (zs.length = k) ∧ Hid (∀ z ∈ zs, -6 ≤ z ∧ z ≤ 6) ∧ wr.ownsRow (g + 1) 2 1 (.slice (some ⟨g', 0, none⟩) k c') k (zs.map ic) ∧ Hid (Src wr g (2 * k)) ∧ Below w.heap.size w wr ∧ g + 1 ≤ wr.heap.size) (fun _ i _ => 10 - (intOf i).toNat)
  case atStart => exact ⟨0, _, 0, [], by omega, rfl, rfl, rfl, (by intro z hz; simp at hz), hown2, HS1.out, hbel2, by simp; omega⟩
  case round =>
    clear hown2 hbel2 HS1
    obtain ⟨k, g', c', zs, hk, rfl, rfl, hlz, hin, hown, hs, hbel, hsz⟩ := hrel
    by_cases hpos : k < 10
    · go_wp2_with fail
      refine (pick_c g _ 13 _ hs.out (by omega) (by omega) (by omega)).mono ?_
      rintro e w3 ⟨x, rfl, hx0, hx1, hs3, hb3⟩
      have hown3 := hown.kept hb3 (.inr (fun e => by have := (hown.lt _ e).1; omega))
      have hbel3 : Below w.heap.size w w3 := hbel.trans (only_below hb3 (by have := HGW.out; omega) hbel.size)
      have hsz3 : g + 1 ≤ w3.heap.size := Nat.le_trans hsz hb3.size
      have HS3 := Lib.hid hs3
      have HE := Lib.hid (in_ext (x := x - 6) hin.out (by omega) (by omega))
      clear hown hbel hs hsz hs3 hb3
      go_wp2_with (at_builtin; refine wpList_append_own _ rfl _ _ 24 rfl (g + 1) 2 i0 (.int .i64 0) 1 8 Try.underlying24 hi hz0 hz1 hzb rfl (by decide) _ _ _ rfl (hown3.alloc _) ⟨w3.heap.size, 0, none⟩ 1 1 [.int .i64 (x - 6)] rfl rfl (cell_one_new _ _ _) (fun u hu => by simp at hu; subst hu; rfl) (by unfold maxLen; omega) (by omega) (by simp; omega) ?_; intro v' w4 hown4 hgrow _)
      have hbg : Below (g + 1) w3 w4 := ((Below.refl (g + 1) w3).alloc hsz3 _).grown hgrow (by simp; omega) (fun k hk => (hown3.lt k hk).1)
      have HS4 := Lib.hid (HS3.out.below hbg (Nat.lt_succ_self g))
      have hbel4 := hbel3.trans (hbg.mono (by have := HGW.out; omega))
      have hsz4 := Nat.le_trans hsz3 hbg.size
      have hown5 := row_ext' hlz.out hown4
      obtain ⟨g1, c1, rfl, hc1⟩ := own_block hown5 (by omega)
      have HL1 : Hid ((zs ++ [x - 6]).length = k + 1) := by show _ = _; simp [hlz.out]
      clear hown4 hgrow hbg hown3 hbel3 hsz3 HS3
      go_wp2_with fail
      go_roundw
      case rel => exact ⟨k + 1, g1, c1, zs ++ [x - 6], by omega, by go_num, by go_num, HL1, HE, hown5, HS4.out.more (by omega), hbel4, hsz4⟩
      case measure => simp [intOf]; omega
    · have e : k = 10 := by omega
      subst e
      go_wp2_with fail
      go_ret
      exact ⟨g', c', zs, rfl, hlz.out, hin.out, (OwnL.of_own hown).less (by have := HGW.out; omega), hbel⟩

set_option maxRecDepth 100000 in
set_option maxHeartbeats 2000000 in
theorem B10Term_c (A : Option Addr) (n c : Nat) (bs : List Nat) (w : World) (hrow : Row w w.heap.size A (bs.map bc)) (hz : bs.length = n) (hz2 : ∀ z ∈ bs, z < 256) (hn : n ≤ 140737488355328) :
    Calls Try.prog 12 #[.slice A n c] w fun e w' => ∃ (A' : Option Addr) (m c' : Nat) (t : Int × List Int), e = .returned (.agg #[.int .i64 t.1, .slice A' m c']) ∧ SmallT 7 4 t ∧ OwnL w' w.heap.size w'.heap.size A' m c' t.2 ∧ Below w.heap.size w w' := by
  obtain ⟨i0, hi, hz0, hz1, hzb⟩ := info_parts info64
  have hbR := bnew w (.cells #[.int .i64 0, .slice none 0 0] 26)
  have hP : BlkIs (w.alloc (.cells #[.int .i64 0, .slice none 0 0] 26)) w.heap.size 26 #[.int .i64 0, .slice none 0 0] := blk_new _ _ _ _ rfl
  have HF := Lib.hid (l00From_c A n c bs (w.alloc (.cells #[.int .i64 0, .slice none 0 0] 26)) ((hrow.below hbR (Nat.le_refl _)).more (by simp)) hz hz2 hn)
  clear hrow hz hz2
  go_enter Try.func12, Try.ntmps12
  go_wp2_with fail
  generalize w.alloc (.cells #[.int .i64 0, .slice none 0 0] 26) = W at hbR hP HF ⊢
  have hltW := hP.lt
  refine HF.out.mono ?_
  rintro e w1 ⟨g, rfl, hg, hs1, hb1⟩
  have hlt := hs1.lt
  have HS1 := Lib.hid (hs1.below ((Below.refl w1.heap.size w1).alloc (Nat.le_refl _) (.cells #[] 2)) hlt)
  have HGW := Lib.hid hg
  clear hs1 hg
  go_wp2_with fail
  refine (pick_c g 0 11 _ HS1.out (by omega) (by omega) (by omega)).mono ?_
  rintro e w2 ⟨x, rfl, hx0, hx1, hs2, hb2⟩
  obtain ⟨m0, rfl⟩ := Int.eq_ofNat_of_zero_le hx0
  have hown2 : w2.ownsRow (g + 1) 2 1 (.slice (some ⟨w1.heap.size, 0, none⟩) 0 0) 0 (([] : List Int).map ic) :=
    (own_less (own_empty w1 2) (by omega)).kept hb2 (.inr (by simp [Value.ownBlock]; omega))
  have hbel2 : Below W.heap.size W w2 := by
    have h1 : Below W.heap.size W (w1.alloc (.cells #[] 2)) := hb1.alloc hb1.size _
    exact h1.trans (only_below hb2 (by have := HGW.out; omega) (by have := h1.size; omega))
  have HS2 := Lib.hid hs2
  clear hs2 hb2 hb1
  go_wp2_with fail
  go_loopw [4, 5] (fun v i wr => ∃ (k m g' c' : Nat) (zs : List Int), i = .int .i64 k ∧ m + k ≤ 10 ∧ v = .slice (some ⟨g', 0, none⟩) m c' ∧ m ≤ c' ∧ Hid (zs.length = m) ∧ Hid (∀ z ∈ zs, -4 ≤ z ∧ z ≤ 4) ∧ wr.ownsRow (g + 1) 2 1 (.slice (some ⟨g', 0, none⟩) m c') m (zs.map ic) ∧ Hid (Src wr g (2 + 2 * m)) ∧ Below W.heap.size W wr ∧ g + 1 ≤ wr.heap.size) (fun _ i _ => (intOf i).toNat)
  case atStart => exact ⟨m0, 0, _, 0, [], rfl, by omega, rfl, Nat.le_refl _, rfl, (by intro z hz; simp at hz), hown2, HS2.out, hbel2, by have := HS2.out.lt; omega⟩
  case round =>
    clear hown2 hbel2 HS2 hx0 hx1
    obtain ⟨k, m, g', c', zs, rfl, hk, rfl, hmc, hlz, hin, hown, hs, hbel, hsz⟩ := hrel
    by_cases hpos : 0 < k
    · go_wp2_with fail
      refine (pick_c g _ 9 _ hs.out (by omega) (by omega) (by omega)).mono ?_
      rintro e w3 ⟨x, rfl, hx0, hx1, hs3, hb3⟩
      have hown3 := hown.kept hb3 (.inr (fun e => by have := (hown.lt _ e).1; omega))
      have hbel3 : Below W.heap.size W w3 := hbel.trans (only_below hb3 (by have := HGW.out; omega) hbel.size)
      have hsz3 : g + 1 ≤ w3.heap.size := Nat.le_trans hsz hb3.size
      have HS3 := Lib.hid hs3
      have HE := Lib.hid (in_ext (x := x - 4) hin.out (by omega) (by omega))
      clear hown hbel hs hsz hs3 hb3
      go_wp2_with (at_builtin; refine wpList_append_own _ rfl _ _ 24 rfl (g + 1) 2 i0 (.int .i64 0) 1 8 Try.underlying24 hi hz0 hz1 hzb rfl (by decide) _ _ _ rfl (hown3.alloc _) ⟨w3.heap.size, 0, none⟩ 1 1 [.int .i64 (x - 4)] rfl rfl (cell_one_new _ _ _) (fun u hu => by simp at hu; subst hu; rfl) (by unfold maxLen; omega) (by omega) (by simp; omega) ?_; intro v' w4 hown4 hgrow _)
      have hbg : Below (g + 1) w3 w4 := ((Below.refl (g + 1) w3).alloc hsz3 _).grown hgrow (by simp; omega) (fun k hk => (hown3.lt k hk).1)
      have HS4 := Lib.hid (HS3.out.below hbg (Nat.lt_succ_self g))
      have hbel4 := hbel3.trans (hbg.mono (by have := HGW.out; omega))
      have hsz4 := Nat.le_trans hsz3 hbg.size
      have hown5 := row_ext' hlz.out hown4
      obtain ⟨g1, c1, rfl, hc1⟩ := own_block hown5 (by omega)
      have HL1 : Hid ((zs ++ [x - 4]).length = m + 1) := by show _ = _; simp [hlz.out]
      clear hown4 hgrow hbg hown3 hbel3 hsz3 HS3
      go_wp2_with fail
      go_roundw
      case rel => exact ⟨k - 1, m + 1, g1, c1, zs ++ [x - 4], by go_num, by omega, by go_num, hc1, HL1, HE, hown5, HS4.out.more (by omega), hbel4, hsz4⟩
      case measure => simp [intOf]; omega
    · go_wp2_with fail
      refine (pick_c g _ 15 _ hs.out (by omega) (by omega) (by omega)).mono ?_
      rintro e w3 ⟨x, rfl, hx0, hx1, hs3, hb3⟩
      have hown3 := hown.kept hb3 (.inr (fun e => by have := (hown.lt _ e).1; omega))
      have hbel3 : Below W.heap.size W w3 := hbel.trans (only_below hb3 (by have := HGW.out; omega) hbel.size)
      have hin3 : InL w3 w3.heap.size (some ⟨g', 0, none⟩) m zs := (OwnL.of_own hown3).all
      have hM := l02Make_c (x - 7) g' m c' zs w3 hin3 (by omega) hmc
      have hsm := mk_small (m := 7) (k := 4) (c := x - 7) (zs := zs) (by omega) (by omega) (by have := hlz.out; omega) (by omega) (by omega) hin.out
      have hs3 := hbel3.size
      have hb03 := bon hbR hbel3
      clear hown hbel hs hb3 hown3 hin3
      generalize mkL (x - 7) zs = R at hM hsm
      obtain ⟨hok, hsm⟩ := hsm
      have HSM := Lib.hid hsm
      have HM := Lib.hid hM
      clear hsm hM hok
      go_wp2_with fail
      refine HM.out.mono ?_
      rintro e w4 ⟨A1, m1, c1, rfl, hown4, hb4⟩
      have hP5 : BlkIs (w4.alloc (.cells #[.int .i64 R.1.1, .slice A1 m1 c1] 26)) w.heap.size 26 #[.int .i64 0, .slice none 0 0] := ((hP.next hbel3).next hb4).next (bnew _ _)
      have r0 := hP5.cell 0
      have r1 := hP5.cell 1
      have f0 := hP5.frozen 0
      have f1 := hP5.frozen 1
      simp at r0 r1
      go_wp2_with fail
      refine bodyPost_ret (v := .agg #[.int .i64 R.1.1, .slice A1 m1 c1]) (by simp [results, Try.results12, go_sem, r0, r1]) rfl ?_
      have hs4 := (bnew w4 (.cells #[.int .i64 R.1.1, .slice A1 m1 c1] 26)).size
      exact ⟨A1, m1, c1, R.1, rfl, HSM.out, give_end hb03 (Nat.le_refl _) (by omega) ((hown4.next (bnew _ _)).wide hs4 (Nat.le_refl _)) (bon hb4 (bnew _ _))⟩
end Go.Proofs.Ytddmpdpmgjggoaa
