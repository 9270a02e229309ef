/-
  GetList: what the program's and the model's give. Conditions: strings of at most 2^47 bytes; errors.errorType holds the handle of the type error.
-/
import Derived.Test.YtffkdidgfeknkaaDoorSize
import Derived.Test.YtffkdidgfeknkaaDoorEq
import Derived.Test.YtffkdidgfeknkaaDoorKeep
import Derived.Maps.AppendAt
namespace Go.Proofs.YtffkdidgfeknkaaDoor
open Go.RowKit

/-- k numbers more, from place q on, behind those of acc. -/
def getLs (s : ByteArray) : Nat → Nat → List Int → Option (List Int × Nat)
  | 0, q, acc => some (acc, q)
  | k + 1, q, acc => match getN s q with
    | some (n, q') => getLs s k q' (acc ++ [n])
    | none => none
/-- The list whose code begins at place p, and the place behind it. -/
def getL (s : ByteArray) (p : Nat) : Option (List Int × Nat) := match getN s p with
  | some (n, q) => if 0 ≤ n ∧ n ≤ 100 then getLs s n.toNat q [] else none
  | none => none
theorem getL_of {s : ByteArray} {p n q : Nat} (h : getN s p = some ((n : Int), q)) (h1 : n ≤ 100) : getL s p = getLs s n q [] := by
  unfold getL
  rw [h]
  simp only [Int.toNat_natCast]
  rw [if_pos ⟨by omega, by omega⟩]
theorem getL_no {s : ByteArray} {p : Nat} (h : ∀ n q : Nat, getN s p = some ((n : Int), q) → ¬ n ≤ 100) : getL s p = none := by
  unfold getL
  cases hg : getN s p with
  | none => rfl
  | some x =>
    obtain ⟨n, q⟩ := x
    simp only []
    rw [if_neg]
    rintro ⟨h0, h1⟩
    obtain ⟨k, rfl⟩ := Int.eq_ofNat_of_zero_le h0
    exact h k q hg (by omega)
theorem getLs_yes {s : ByteArray} {k q q' : Nat} {n : Int} {acc : List Int} (h : getN s q = some (n, q')) : getLs s (k + 1) q acc = getLs s k q' (acc ++ [n]) := by
  rw [getLs, h]
theorem getLs_no {s : ByteArray} {k q : Nat} {acc : List Int} (h : getN s q = none) : getLs s (k + 1) q acc = none := by
  rw [getLs, h]

/-- Cells of whole numbers, k of them in place, the others 0. -/
def part (acc : List Int) (m : Nat) : List Value := acc.map ic ++ List.replicate (m - acc.length) (.int .i64 0)
theorem part_set {acc : List Int} {m : Nat} {n : Int} (h : acc.length < m) : (part acc m).set acc.length (.int .i64 n) = part (acc ++ [n]) m := by
  have hl : (acc.map ic).length = acc.length := List.length_map ..
  have e : m - acc.length = (m - (acc.length + 1)) + 1 := by omega
  unfold part
  rw [List.set_append_right _ _ (by omega), hl, Nat.sub_self, e, List.replicate_succ, List.set_cons_zero]
  simp [ic]
theorem part_full {acc : List Int} {m : Nat} (h : acc.length = m) : part acc m = acc.map ic := by
  unfold part; rw [h, Nat.sub_self]; simp

theorem grown_far {a b : World} {r g i : Nat} {u : Value} (h : a.grownBy b (some r)) (hg : a.heap.size ≤ g) : a.grownBy (b.setCell ⟨g, i, none⟩ u) (some r) :=
  ⟨h.os, h.tape, h.output, by simpa [World.setCell] using h.size, fun k hk hr => (Below.heap_setCell _ _ _ k (by show k ≠ g; omega)).trans (h.block k hk hr)⟩
theorem Rd.far {w : World} {r g i p : Nat} {s : ByteArray} {ok : Bool} {u : Value} (h : Rd w r s p ok) (hg : r ≠ g) : Rd (w.setCell ⟨g, i, none⟩ u) r s p ok := by
  obtain ⟨ev, h1, h2⟩ := h
  exact ⟨ev, (Below.heap_setCell _ _ _ r hg).trans h1, h2⟩
theorem Er.far {w : World} {r g i : Nat} {u : Value} (h : Er w r) (hg : r ≠ g) : Er (w.setCell ⟨g, i, none⟩ u) r := by
  obtain ⟨s, p, q, h1⟩ := h
  exact ⟨s, p, q, (Below.heap_setCell _ _ _ r hg).trans h1⟩
/-- What the loop over the list keeps when k numbers are in place. -/
def Lk (s : ByteArray) (p r g m B k : Nat) (w : World) : Prop :=
  (∃ acc q, acc.length = k ∧ getL s p = getLs s (m - k) q acc ∧ q ≤ s.size ∧ w.ownsRow B 2 1 (.slice (some ⟨g, 0, none⟩) m m) m (part acc m) ∧ Rd w r s q true) ∨
  (getL s p = none ∧ Er w r ∧ ∃ xs, xs.length = m ∧ w.ownsRow B 2 1 (.slice (some ⟨g, 0, none⟩) m m) m xs)
theorem part_len {acc : List Int} {m : Nat} (h : acc.length ≤ m) : (part acc m).length = m := by
  simp [part]; omega

set_option maxRecDepth 100000 in
set_option maxHeartbeats 4000000 in
/-- list, of a reader that has had no error. -/
theorem list_c (r : Nat) (s : ByteArray) (p : Nat) (w : World) (h : Rd w r s p true) (hs : s.size ≤ 140737488355328) (hp : p ≤ s.size) :
    Calls Tryd.prog 37 #[.pointer (some ⟨r, 0, none⟩)] w fun e w' => w.grownBy w' (some r) ∧ ∃ v, e = .returned v ∧
      ((∃ zs q, getL s p = some (zs, q) ∧ zs.length ≤ 100 ∧ w'.ownsRow w.heap.size 2 1 v zs.length (zs.map ic) ∧ Rd w' r s q true) ∨ (getL s p = none ∧ Er w' r)) := by
  obtain ⟨i0, hi, hz0, hz1, hz2⟩ := info_parts info64
  have hrl := h.lt
  have H := Lib.hid h
  clear h
  go_enter Tryd.func37, Tryd.ntmps37
  go_wp2_with fail
  refine (size_c r s p 100 _ H.out hs hp (by omega)).mono ?_
  rintro e w1 ⟨hg1, ⟨m, q0, hn, hm, rfl, hr⟩ | ⟨hn, rfl, hr⟩⟩
  · have HGL := Lib.hid (getL_of hn hm)
    have hq0 := (getN_le hn).2.1
    have HR := Lib.hid hr
    have hsz1 := hg1.size
    clear hn hr
    go_wp2_with (at_make; refine wpList_make_full _ rfl _ _ 24 rfl w.heap.size 2 i0 (.int .i64 0) 1 Tryd.underlying24 hi hz0 hz1 .i64 .i64 _ _ m rfl rfl rfl rfl (by rw [hz2]; omega) (by unfold maxLen; omega) hsz1 ?_; intro w2 hown hgrow)
    have hs2 : (madeCells (Value.int .i64 0).cells (m * 1)).toList = part [] m := by
      show (madeCells #[Value.int .i64 0] (m * 1)).toList = _
      rw [toList_madeCells_one]
      simp [part]
    rw [hs2] at hown
    have hg2 : w.grownBy w2 (some r) := hg1.trans (hgrow.but _)
    have hr2 : Rd w2 r s q0 true := by
      obtain ⟨ev, h1, h2⟩ := HR.out
      exact ⟨ev, (hgrow.block r HR.out.lt (by simp)).trans h1, h2⟩
    have HR2 := Lib.hid hr2
    have hgl : w.heap.size ≤ w1.heap.size := hsz1
    clear hs2 hgrow hr2 HR
    generalize hgb : w1.heap.size = g at *
    go_wp2_with fail
    go_loopw [4, 10] (fun _ iv wr => ∃ k : Nat, k ≤ m ∧ iv = .int .i64 k ∧ w.grownBy wr (some r) ∧ Hid (Lk s p r g m w.heap.size k wr)) (fun _ iv _ => m - (intOf iv).toNat)
    case atStart => exact ⟨0, by omega, rfl, hg2, .inl ⟨[], q0, rfl, HGL.out, hq0, hown, HR2.out⟩⟩
    case round =>
      clear hown HR2 hg2 HGL
      obtain ⟨k, hk, rfl, hg, hl⟩ := hrel
      by_cases hlt : k < m
      · rcases hl.out with ⟨acc, q, hak, hge, hq, hown, hr⟩ | ⟨hge, her, xs, hxl, hown⟩
        · have HR := Lib.hid hr
          have HGE := Lib.hid hge
          have HAK := Lib.hid hak
          clear hr hge hak hl
          go_wp2_with fail
          refine (number_c r s q _ HR.out hs hq).mono ?_
          rintro e w3 ⟨hg3, ⟨n, q', hn, rfl, hr3⟩ | ⟨hn, rfl, q', hr3⟩⟩
          · have hown3 := hown.kept hg3 (.inr (by simp [Value.ownBlock]; omega))
            have hst := hown3.stored k (.int .i64 n)
            have hfz := hown3.frozenAt k
            have hcl := hown3.cellAt k (by omega)
            obtain ⟨u, hu⟩ : ∃ u, (part acc m)[k]? = some u := ⟨_, List.getElem?_eq_getElem (by rw [part_len (by have := HAK.out; omega)]; exact hlt)⟩
            rw [hu] at hcl
            have hps := part_set (acc := acc) (m := m) (n := n) (by have := HAK.out; omega)
            rw [HAK.out] at hps
            rw [hps] at hst
            have HLK : Hid (Lk s p r g m w.heap.size (k + 1) (w3.setCell ⟨g, k, none⟩ (.int .i64 n))) := by
              refine .inl ⟨acc ++ [n], q', by have := HAK.out; simp; omega, ?_, (getN_le hn).2.1, hst.1, hr3.far (by omega)⟩
              rw [HGE.out, ← getLs_yes hn]
              congr 1
              omega
            have hg4 := grown_far (g := g) (i := k) (u := .int .i64 n) (hg.trans hg3) hgl
            clear hu hps hst hown hown3 hn hr3 hg3
            go_wp2_with fail
            go_roundw
            case rel => exact ⟨k + 1, by omega, by go_num, hg4, HLK⟩
            case measure => simp [intOf]; omega
          · have hown3 := hown.kept hg3 (.inr (by simp [Value.ownBlock]; omega))
            have hst := hown3.stored k (.int .i64 0)
            have hfz := hown3.frozenAt k
            have hcl := hown3.cellAt k (by omega)
            obtain ⟨u, hu⟩ : ∃ u, (part acc m)[k]? = some u := ⟨_, List.getElem?_eq_getElem (by rw [part_len (by have := HAK.out; omega)]; exact hlt)⟩
            rw [hu] at hcl
            have HLK : Hid (Lk s p r g m w.heap.size (k + 1) (w3.setCell ⟨g, k, none⟩ (.int .i64 0))) := by
              refine .inr ⟨?_, hr3.er.far (by omega), _, ?_, hst.1⟩
              · rw [HGE.out]
                have e : m - k = (m - (k + 1)) + 1 := by omega
                rw [e, getLs_no hn]
              · rw [List.length_set, part_len (by have := HAK.out; omega)]
            have hg4 := grown_far (g := g) (i := k) (u := .int .i64 0) (hg.trans hg3) hgl
            clear hu hst hown hown3 hn hr3 hg3
            go_wp2_with fail
            go_roundw
            case rel => exact ⟨k + 1, by omega, by go_num, hg4, HLK⟩
            case measure => simp [intOf]; omega
        · have HER := Lib.hid her
          have HGE := Lib.hid hge
          clear her hge hl
          go_wp2_with fail
          refine (number_no r _ HER.out).mono ?_
          rintro e w' ⟨rfl, rfl⟩
          have hst := hown.stored k (.int .i64 0)
          have hfz := hown.frozenAt k
          have hcl := hown.cellAt k (by omega)
          obtain ⟨u, hu⟩ : ∃ u, xs[k]? = some u := ⟨_, List.getElem?_eq_getElem (by omega)⟩
          rw [hu] at hcl
          have HLK : Hid (Lk s p r g m w.heap.size (k + 1) (wr.setCell ⟨g, k, none⟩ (.int .i64 0))) :=
            .inr ⟨HGE.out, HER.out.far (by omega), _, by rw [List.length_set]; exact hxl, hst.1⟩
          have hg4 := grown_far (g := g) (i := k) (u := .int .i64 0) hg hgl
          clear hu hst hown
          go_wp2_with fail
          go_roundw
          case rel => exact ⟨k + 1, by omega, by go_num, hg4, HLK⟩
          case measure => simp [intOf]; omega
      · have e : k = m := by omega
        subst e
        go_wp2_with fail
        go_ret
        refine ⟨hg, _, rfl, ?_⟩
        rcases hl.out with ⟨acc, q, hak, hge, hq, hown, hr⟩ | ⟨hge, her, xs, hxl, hown⟩
        · rw [Nat.sub_self, getLs] at hge
          rw [part_full hak] at hown
          exact .inl ⟨acc, q, hge, by omega, by rw [hak]; exact hown, hr⟩
        · exact .inr ⟨hge, her⟩
  · have HGL := Lib.hid (getL_no hn)
    have HR := Lib.hid hr
    have hsz1 := hg1.size
    clear hn hr
    go_wp2_with (at_make; refine wpList_make_full _ rfl _ _ 24 rfl w.heap.size 2 i0 (.int .i64 0) 1 Tryd.underlying24 hi hz0 hz1 .i64 .i64 _ _ 0 rfl rfl rfl rfl (by rw [hz2]; omega) (by unfold maxLen; omega) hsz1 ?_; intro w2 hown hgrow)
    have hg2 : w.grownBy w2 (some r) := hg1.trans (hgrow.but _)
    have her2 : Er w2 r := by
      obtain ⟨s', p', q', h1⟩ := HR.out
      exact ⟨s', p', q', (hgrow.block r HR.out.lt (by simp)).trans h1⟩
    have HR2 := Lib.hid her2
    clear hgrow her2 HR hown
    go_wp2_with fail
    go_loopw [4, 10] (fun _ iv wr => ∃ k : Nat, k ≤ 0 ∧ iv = .int .i64 k ∧ w.grownBy wr (some r) ∧ Hid (Er wr r)) (fun _ _ _ => 0)
    case atStart => exact ⟨0, by omega, rfl, hg2, HR2.out⟩
    case round =>
      clear HR2 hg2
      obtain ⟨k, hk, rfl, hg, her⟩ := hrel
      have hk0 : (k : Int) ≤ 0 := by omega
      go_wp2_with fail
      go_ret
      exact ⟨hg, _, rfl, .inr ⟨HGL.out, her.out⟩⟩

set_option maxRecDepth 100000 in
set_option maxHeartbeats 1000000 in
theorem list_no (r : Nat) (w : World) (h : Er w r) :
    Calls Tryd.prog 37 #[.pointer (some ⟨r, 0, none⟩)] w fun e w' => w.grownBy w' (some r) ∧ Er w' r ∧ ∃ v, e = .returned v := by
  obtain ⟨i0, hi, hz0, hz1, hz2⟩ := info_parts info64
  have H := Lib.hid h
  have hrl := h.lt
  clear h
  go_enter Tryd.func37, Tryd.ntmps37
  go_wp2_with fail
  refine (size_no r 100 _ H.out).mono ?_
  rintro e w' ⟨rfl, rfl⟩
  go_wp2_with (at_make; refine wpList_make_full _ rfl _ _ 24 rfl w.heap.size 2 i0 (.int .i64 0) 1 Tryd.underlying24 hi hz0 hz1 .i64 .i64 _ _ 0 rfl rfl rfl rfl (by rw [hz2]; omega) (by unfold maxLen; omega) (Nat.le_refl _) ?_; intro w2 hown hgrow)
  have her2 : Er w2 r := by
    obtain ⟨s', p', q', h1⟩ := H.out
    exact ⟨s', p', q', (hgrow.block r H.out.lt (by simp)).trans h1⟩
  have hg2 : w.grownBy w2 (some r) := hgrow.but _
  have HR2 := Lib.hid her2
  clear hgrow her2 hown
  go_wp2_with fail
  go_loopw [4, 10] (fun _ iv wr => ∃ k : Nat, k ≤ 0 ∧ iv = .int .i64 k ∧ w.grownBy wr (some r) ∧ Hid (Er wr r)) (fun _ _ _ => 0)
  case atStart => exact ⟨0, by omega, rfl, hg2, HR2.out⟩
  case round =>
    clear HR2 hg2
    obtain ⟨k, hk, rfl, hg, her⟩ := hrel
    have hk0 : (k : Int) ≤ 0 := by omega
    go_wp2_with fail
    go_ret
    exact ⟨hg, her.out, _, rfl⟩

/-- What GetList gives: a row of its own, or nothing. -/
def glR (B : Nat) (o : Option (List Int × Nat)) (e : Ending) (w' : World) : Prop := match o with
  | some (zs, q) => ∃ v, e = .returned (.tuple #[v, .int .i64 q, .bool true]) ∧ zs.length ≤ 100 ∧ w'.ownsRow B 2 1 v zs.length (zs.map ic)
  | none => e = .returned (.tuple #[.slice none 0 0, .int .i64 0, .bool false])

set_option maxRecDepth 100000 in
set_option maxHeartbeats 1000000 in
theorem getList_yes (s : ByteArray) (p : Nat) (w : World) (hp : p ≤ s.size) (hs : s.size ≤ 140737488355328) (hd : Hd w) :
    Calls Tryd.prog 11 #[.string s, .int .i64 p] w fun e w' => glR w.heap.size (getL s p) e w' ∧ Below w.heap.size w w' := by
  have HD := Lib.hid hd
  clear hd
  go_enter Tryd.func11, Tryd.ntmps11
  go_wp2_with fail
  refine (readerAt_yes s p _ hp hs).mono ?_
  rintro e w1 ⟨rfl, hr1, hb1⟩
  have HR1 := Lib.hid hr1
  have HD1 := Lib.hid (HD.out.below hb1 HD.out.lt)
  have hpos := HD.out.lt
  clear hr1
  go_wp2_with fail
  refine (list_c w.heap.size s p _ HR1.out hs hp).mono ?_
  rintro e w2 ⟨hg2, v, rfl, ⟨zs, q, hn, hz, hown, hr2⟩ | ⟨hn, hr2⟩⟩
  · have HR2 := Lib.hid hr2
    have HN := Lib.hid hn
    have hb2 : Below w.heap.size w w2 := hb1.trans (only_below hg2 (Nat.le_refl _) hb1.size)
    have HO := Lib.hid hown
    clear hr2 hn hg2 hown
    go_wp2_with fail
    refine (end_yes w.heap.size s q _ HR2.out).mono ?_
    rintro e w3 ⟨rfl, hb3⟩
    go_wp2_with fail
    go_ret3
    refine ⟨?_, hb2.trans (hb3.mono hb2.size)⟩
    rw [HN.out]
    exact ⟨v, rfl, hz, own_less (own_below HO.out hb3) hb1.size⟩
  · have HR2 := Lib.hid hr2
    have HN := Lib.hid hn
    have HD2 := Lib.hid (HD1.out.only hg2 hpos)
    have hb2 : Below w.heap.size w w2 := hb1.trans (only_below hg2 (Nat.le_refl _) hb1.size)
    clear hr2 hn hg2
    go_wp2_with fail
    refine (end_no w.heap.size _ HR2.out HD2.out).mono ?_
    rintro e w3 ⟨rfl, hb3⟩
    go_wp2_with fail
    go_ret3
    exact ⟨by rw [HN.out]; rfl, hb2.trans (hb3.mono hb2.size)⟩

set_option maxRecDepth 100000 in
set_option maxHeartbeats 1000000 in
theorem getList_no (s : ByteArray) (p : Int) (w : World) (hp : ¬ (0 ≤ p ∧ p ≤ s.size)) (hs : s.size ≤ 140737488355328) (hd : Hd w) :
    Calls Tryd.prog 11 #[.string s, .int .i64 p] w fun e w' => glR w.heap.size none e w' ∧ Below w.heap.size w w' := by
  have HD := Lib.hid hd
  have HP := Lib.hid hp
  have hpos := hd.lt
  clear hd hp
  go_enter Tryd.func11, Tryd.ntmps11
  go_wp2_with fail
  refine (readerAt_no s p _ HP.out hs).mono ?_
  rintro e w1 ⟨rfl, hr1, hb1⟩
  have HR1 := Lib.hid hr1
  have HD1 := Lib.hid (HD.out.below hb1 HD.out.lt)
  clear hr1
  go_wp2_with fail
  refine (list_no w.heap.size _ HR1.out).mono ?_
  rintro e w2 ⟨hg2, hr2, v, rfl⟩
  have HR2 := Lib.hid hr2
  have HD2 := Lib.hid (HD1.out.only hg2 hpos)
  have hb2 : Below w.heap.size w w2 := hb1.trans (only_below hg2 (Nat.le_refl _) hb1.size)
  clear hr2 hg2
  go_wp2_with fail
  refine (end_no w.heap.size _ HR2.out HD2.out).mono ?_
  rintro e w3 ⟨rfl, hb3⟩
  go_wp2_with fail
  go_ret3
  exact ⟨rfl, hb2.trans (hb3.mono hb2.size)⟩

theorem gl_ext {zs : List Int} {x : Int} {w : World} {base : Nat} {v : Value} (h : w.ownsRow base 2 1 v (zs.length + 1) (zs.map ic ++ [.int .i64 x])) :
    w.ownsRow base 2 1 v (zs ++ [x]).length ((zs ++ [x]).map ic) := by
  simpa [ic] using h

/-- What the model's l01GetList gives. -/
def slR (B : Nat) (o : Option (List Int × Nat)) (e : Ending) (w' : World) : Prop := match o with
  | some (zs, q) => ∃ v, e = .returned (.tuple #[v, .int .i64 q, .bool true]) ∧ zs.length ≤ 100 ∧ w'.ownsRow B 2 1 v zs.length (zs.map ic)
  | none => ∃ v, e = .returned (.tuple #[v, .int .i64 0, .bool false])
theorem slR_none {B : Nat} {o : Option (List Int × Nat)} {v : Value} {w' : World} (h : o = none) : slR B o (.returned (.tuple #[v, .int .i64 0, .bool false])) w' := by
  subst h; exact ⟨v, rfl⟩

end Go.Proofs.YtffkdidgfeknkaaDoor
