/-
  slices.DeleteFunc at numbers, for any test of one number. Conditions: at most 1000 numbers.
-/
import Derived.Test.YtffkdidgfeknkaaGreatDoorOwn
import Derived.Test.YtffkdidgfeknkaaGreatDoorTermL
import Derived.Test.YtffkdidgfeknkaaGreatDoorTarg
import Derived.Lib.SliceRun
namespace Go.Proofs.YtffkdidgfeknkaaGreatDoor
set_option linter.unusedVariables false
open Go.RowKit

theorem cutG_own {W : World} {base : Nat} {e : TypeId} {A : Option Addr} {n c k : Nat} {xs : List Value} (h : W.ownsRow base e 1 (.slice A n c) n xs) (hk : k ≤ n) : W.ownsRow base e 1 (.slice A k c) k (xs.take k) := by
  refine ⟨by rw [List.length_take, h.1]; omega, ?_⟩
  rcases h.2 with ⟨h', hn⟩ | ⟨g, cap, cur, h1, h2, h3, h4, h5, h6, h7⟩
  · injection h' with a b c'
    have : k = 0 := by omega
    subst this
    exact .inl ⟨by rw [a, c'], rfl⟩
  · injection h1 with a b c'
    refine .inr ⟨g, cap, cur, by rw [a, c'], h2, h3, by omega, h5, h6, ?_⟩
    rw [← h7, List.take_take]
    congr 1
    omega
theorem ownG_cells {base n c g : Nat} {e : TypeId} : ∀ (vs : List Value) (o : Nat) (w : World) (xs : List Value), w.ownsRow base e 1 (.slice (some ⟨g, 0, none⟩) n c) n xs → o + vs.length ≤ n →
    ∃ ys, (w.setCells g o vs).ownsRow base e 1 (.slice (some ⟨g, 0, none⟩) n c) n ys ∧ ys.take o = xs.take o ∧ w.grownBy (w.setCells g o vs) (some g)
  | [], o, w, xs, h, _ => ⟨xs, h, rfl, World.grownBy.refl _ _⟩
  | v :: vs, o, w, xs, h, hl => by
    obtain ⟨h1, h2⟩ := h.stored o v
    obtain ⟨ys, k1, k2, k3⟩ := ownG_cells vs (o + 1) (w.setCell ⟨g, o, none⟩ v) (xs.set o v) h1 (by simp at hl; omega)
    refine ⟨ys, k1, ?_, only_trans only_set k3⟩
    have e1 : ys.take o = (ys.take (o + 1)).take o := by rw [List.take_take]; congr 1; omega
    rw [e1, k2, List.take_take, Nat.min_eq_left (Nat.le_succ o), List.take_set_of_le (Nat.le_refl o)]

section
variable (p : Int → Bool) (P base : Nat) (l : Nat) (L : List Int) (w : World)
def KeepsG (j : Nat) : List Int := (L.take j).filter fun z => !p z
theorem KeepsG_yes {j : Nat} {z : Int} (hz : L[j]? = some z) (hp : p z = false) : KeepsG p L (j + 1) = KeepsG p L j ++ [z] := by
  unfold KeepsG; rw [List.take_add_one, hz, List.filter_append]; simp [hp]
theorem KeepsG_no {j : Nat} {z : Int} (hz : L[j]? = some z) (hp : p z = true) : KeepsG p L (j + 1) = KeepsG p L j := by
  unfold KeepsG; rw [List.take_add_one, hz, List.filter_append]; simp [hp]
theorem KeepsG_len (j : Nat) : (KeepsG p L j).length ≤ j := by
  unfold KeepsG
  have := List.length_filter_le (fun z => !p z) (L.take j)
  rw [List.length_take] at this; omega
theorem KeepsG_all {i : Nat} (h : ∀ j z, j < i → L[j]? = some z → p z = false) : KeepsG p L i = L.take i := by
  unfold KeepsG
  rw [List.filter_eq_self]
  intro z hz
  obtain ⟨j, hj, e⟩ := List.getElem_of_mem hz
  rw [List.length_take] at hj
  have := h j z (by omega) (by rw [List.getElem_take] at e; rw [← e]; exact List.getElem?_eq_getElem _)
  rw [this]; rfl
/-- What is known of the test. -/
def TestG : Prop := ∀ z (W : World), Below base w W → Calls Tryz.prog 72 #[.int .i64 z, .pointer (some ⟨P, 0, none⟩)] W fun e w' => e = .returned (.bool (p z)) ∧ Below W.heap.size W w'
variable {p P base l L w}

set_option maxRecDepth 100000 in
set_option maxHeartbeats 2000000 in
theorem indexG_c (hf : TestG p P base w) (V : Option Addr) (vc : Nat) (h : InL w w.heap.size V l L) (hbw : base ≤ w.heap.size) (hl : l ≤ 1000) :
    Calls Tryz.prog 90 #[.slice V l vc, .func (Fn.func 72) #[] #[.pointer (some ⟨P, 0, none⟩)]] w fun e w' => ∃ i, i ≤ l ∧ e = .returned (.int .i64 (if i = l then -1 else (i : Int))) ∧ (∀ j z, j < i → L[j]? = some z → p z = false) ∧ (i < l → ∃ z, L[i]? = some z ∧ p z = true) ∧ Below w.heap.size w w' := by
  have hlen := Lib.hid h.1
  have HF := Lib.hid hf
  clear hf
  go_enter Tryz.func90, Tryz.ntmps90
  go_wp2_with fail
  go_loopw [5, 8] (fun _ q wr => ∃ j : Nat, j ≤ l ∧ q = .int .i64 j ∧ Hid (∀ k z, k < j → L[k]? = some z → p z = false) ∧ Below w.heap.size w wr) (fun _ q _ => l - (intOf q).toNat)
  case atStart => exact ⟨0, Nat.zero_le _, rfl, Lib.hid (fun k z hk => absurd hk (Nat.not_lt_zero _)), Below.refl _ _⟩
  case round =>
    obtain ⟨j, hj, rfl, hA, hb⟩ := hrel
    by_cases hlt : j < l
    · have hjl : (j : Int) < (l : Int) := by omega
      obtain ⟨b, off, z, rfl, hbb, hz, hc⟩ := (h.next hb (Nat.le_refl _)).2.int_at (k := j) (by have := hlen.out; omega)
      have HD := Lib.hid (HF.out z wr (hb.mono hbw))
      have HZ := Lib.hid hz
      cases hp : p z with
      | false =>
        rw [hp] at HD
        have hA2 : Hid (∀ k z, k < j + 1 → L[k]? = some z → p z = false) := fun k y hk hy => by
          by_cases e : k = j
          · subst e
            rw [HZ.out] at hy
            rw [← Option.some.inj hy]; exact hp
          · exact hA.out k y (by omega) hy
        clear hz hp
        go_wp2_with fail
        refine HD.out.mono ?_
        rintro e w1 ⟨rfl, hb1⟩
        go_wp2_with fail
        go_roundw
        case rel => exact ⟨j + 1, by omega, by go_num, hA2, bon hb hb1⟩
        case measure => simp [intOf]; omega
      | true =>
        rw [hp] at HD
        have hE : Hid (∃ z, L[j]? = some z ∧ p z = true) := ⟨z, hz, hp⟩
        have HE : Hid ((if j = l then (-1 : Int) else (j : Int)) = j) := if_neg (by omega)
        clear hz hp
        go_wp2_with fail
        refine HD.out.mono ?_
        rintro e w1 ⟨rfl, hb1⟩
        go_wp2_with fail
        go_ret
        exact ⟨j, hj, by rw [HE.out]; rfl, hA.out, fun _ => hE.out, bon hb hb1⟩
    · have HE : Hid ((if l = l then (-1 : Int) else (l : Int)) = -1) := if_pos rfl
      have hA2 : Hid (∀ k z, k < l → L[k]? = some z → p z = false) := fun k z hk => hA.out k z (by omega)
      clear hA
      go_wp2_with fail
      go_ret
      exact ⟨l, Nat.le_refl _, by rw [if_pos rfl]; rfl, hA2.out, fun h => absurd h (Nat.lt_irrefl _), hb⟩

set_option maxRecDepth 100000 in
set_option maxHeartbeats 4000000 in
theorem deleteG_c (hf : TestG p P base w) (V : Option Addr) (vc : Nat) (h : w.ownsRow base 2 1 (.slice V l vc) l (L.map ic)) (hbw : base ≤ w.heap.size) (hl : l ≤ 1000) :
    Calls Tryz.prog 70 #[.slice V l vc, .func (Fn.func 72) #[] #[.pointer (some ⟨P, 0, none⟩)]] w fun e w' => ∃ A' c', e = .returned (.slice A' (L.filter fun z => !p z).length c') ∧ InL w' w'.heap.size A' (L.filter fun z => !p z).length (L.filter fun z => !p z) ∧ Below base w w' := by
  have hL : L.length = l := by have := h.1; simpa using this
  have hin : InL w w.heap.size V l L := (OwnL.of_own h).all
  have HIX := Lib.hid (indexG_c hf V vc hin hbw hl)
  have HF := Lib.hid hf
  have HO := Lib.hid h
  clear h hf hin
  go_enter Tryz.func70, Tryz.ntmps70
  go_wp2_with fail
  refine HIX.out.mono ?_
  rintro e w1 ⟨i, hi, rfl, hA, hT, hb1⟩
  have h1 := own_below HO.out hb1
  by_cases hil : i = l
  · subst hil
    have hK : L.filter (fun z => !p z) = L := by
      have := KeepsG_all p L hA
      unfold KeepsG at this
      rwa [List.take_of_length_le (by omega)] at this
    have HK := Lib.hid hK
    have hO1 := Lib.hid (OwnL.of_own h1).all
    clear hA hT h1
    rw [if_pos rfl]
    go_wp2_with fail
    go_ret
    refine ⟨V, vc, ?_, ?_, hb1.mono hbw⟩
    · rw [HK.out, hL]; rfl
    · rw [HK.out, hL]; exact hO1.out
  · rw [if_neg hil]
    have i0 : i < l := by omega
    obtain ⟨z0, hz0, hp0⟩ := hT i0
    have hK0 : KeepsG p L (i + 1) = L.take i := by rw [KeepsG_no p L hz0 hp0, KeepsG_all p L hA]
    obtain ⟨g, rfl, hgb⟩ : ∃ g, V = some ⟨g, 0, none⟩ ∧ base ≤ g := by
      rcases h1.2 with ⟨h', hn⟩ | ⟨g, cap, cur, k1, k2, _⟩
      · exact absurd hn (by omega)
      · injection k1 with k1; exact ⟨g, k1, k2⟩
    have hvc : l ≤ vc := by
      rcases h1.2 with ⟨h', hn⟩ | ⟨g', cap, cur, q1, _, _, q4, _⟩
      · omega
      · injection q1 with _ _ q1; omega
    have im : ((i : Int) == -1) = false := by first | (simp; done) | (simp; omega)
    have hstart : ∃ ys : List Value, w1.ownsRow base 2 1 (.slice (some ⟨g, 0, none⟩) l vc) l ys ∧ Hid (ys.take (KeepsG p L (i + 1)).length = (KeepsG p L (i + 1)).map ic) ∧ Hid (ys.drop (i + 1) = (L.map ic).drop (i + 1)) := by
      refine ⟨L.map ic, h1, ?_, rfl⟩
      show _ = _
      rw [hK0, List.length_take, Nat.min_eq_left (by omega), List.map_take]
    have hlen0 : (KeepsG p L (i + 1)).length = i := by rw [hK0, List.length_take]; omega
    have hb1' := hb1.mono hbw
    have hs1 := hb1.size
    clear hA hT hz0 hp0 hK0 h1 HIX hb1
    go_wp2_with fail
    go_loopw [5, 6, 7] (fun a q _ wr => ∃ (j : Nat) (ys : List Value), i < j ∧ j ≤ l ∧ (KeepsG p L j).length < j ∧ a = .int .i64 ((KeepsG p L j).length : Nat) ∧ q = .int .i64 j ∧ wr.ownsRow base 2 1 (.slice (some ⟨g, 0, none⟩) l vc) l ys ∧ Hid (ys.take (KeepsG p L j).length = (KeepsG p L j).map ic) ∧ Hid (ys.drop j = (L.map ic).drop j) ∧ Below base w wr ∧ w.heap.size ≤ wr.heap.size) (fun _ q _ _ => l - (intOf q).toNat)
    case atStart =>
      obtain ⟨ys, y1, y2, y3⟩ := hstart
      exact ⟨i + 1, ys, by omega, by omega, by omega, by rw [hlen0], by go_num, y1, y2, y3, hb1', hs1⟩
    case round =>
      clear hstart hlen0 hb1'
      obtain ⟨j, ys, hij, hj, hkj, rfl, rfl, y1, y2, y3, hb, hsw⟩ := hrel
      have hyl : ys.length = l := by have := y1.1; simpa using this
      by_cases hlt : j < l
      · have hjl : (j : Int) < (l : Int) := by omega
        obtain ⟨z, hz⟩ : ∃ z, L[j]? = some z := ⟨_, List.getElem?_eq_getElem (by omega)⟩
        have hyj : ys[j]? = some (.int .i64 z) := by
          have := congrArg (fun l : List Value => l[0]?) y3.out
          simp only [List.getElem?_drop, Nat.add_zero, List.getElem?_map, hz] at this
          exact this
        have hc : wr.cell? ⟨g, j, none⟩ = some (.int .i64 z) := by rw [y1.cellAt j (by omega)]; exact hyj
        have HD := Lib.hid (HF.out z wr hb)
        have hdr : ys.drop (j + 1) = (L.map ic).drop (j + 1) := by
          have := congrArg List.tail y3.out
          rwa [List.tail_drop, List.tail_drop] at this
        cases hp : p z with
        | true =>
          rw [hp] at HD
          have HK := Lib.hid (KeepsG_no p L hz hp)
          have HDR := Lib.hid hdr
          clear hz hyj hp hdr
          go_wp2_with fail
          refine HD.out.mono ?_
          rintro e w3 ⟨rfl, hb3⟩
          have y4 := own_below y1 hb3
          have hb4 := hb.trans (hb3.mono (by omega))
          have hs4 := hb3.size
          go_wp2_with fail
          go_roundw
          case rel => exact ⟨j + 1, ys, by omega, by omega, by rw [HK.out]; omega, by rw [HK.out], by go_num, y4, by rw [HK.out]; exact y2, HDR, hb4, by omega⟩
          case measure => simp [intOf]; omega
        | false =>
          rw [hp] at HD
          have HK := Lib.hid (KeepsG_yes p L hz hp)
          have hkl : (KeepsG p L j).length < l := by omega
          obtain ⟨kk, hkk⟩ : ∃ kk, (KeepsG p L j).length = kk := ⟨_, rfl⟩
          have HT2 : Hid ((ys.set kk (.int .i64 z)).take (kk + 1) = (KeepsG p L (j + 1)).map ic) := by
            show _ = _
            rw [HK.out, List.map_append, ← y2.out, hkk, List.take_add_one, List.getElem?_set_self (by omega), List.take_set_of_le (Nat.le_refl _)]
            rfl
          have HDR : Hid ((ys.set kk (.int .i64 z)).drop (j + 1) = (L.map ic).drop (j + 1)) := by
            show _ = _
            rw [List.drop_set_of_lt (by omega)]; exact hdr
          have hkli : (kk : Int) < (l : Int) := by omega
          rw [hkk] at hkj hkl y2 ⊢
          have HKL : Hid ((KeepsG p L (j + 1)).length = kk + 1) := by show _ = _; rw [HK.out, List.length_append, hkk]; rfl
          clear hz hyj hp hdr
          go_wp2_with fail
          refine HD.out.mono ?_
          rintro e w3 ⟨rfl, hb3⟩
          have y4 := own_below y1 hb3
          have c4 : ∃ u, w3.cell? ⟨g, kk, none⟩ = some u := ⟨_, (y4.cellAt kk (by omega)).trans (List.getElem?_eq_getElem (by omega))⟩
          obtain ⟨u4, c4⟩ := c4
          have f4 := y4.frozenAt kk
          have y5 := (y4.stored kk (.int .i64 z)).1
          have hb4 : Below base w (w3.setCell ⟨g, kk, none⟩ (.int .i64 z)) := (hb.trans (hb3.mono (by omega))).setCell (p := ⟨g, kk, none⟩) hgb _
          have hs4 := hb3.size
          clear y1 y4
          go_wp2_with fail
          go_roundw
          case rel => exact ⟨j + 1, _, by omega, by omega, by rw [HKL.out]; omega, by rw [HKL.out]; go_num, by go_num, y5, by rw [HKL.out]; exact HT2, HDR, hb4, by simp; omega⟩
          case measure => simp [intOf]; omega
      · have e : j = l := by omega
        subst e
        obtain ⟨kk, hkk⟩ : ∃ kk, (KeepsG p L j).length = kk := ⟨_, rfl⟩
        have hKf : KeepsG p L j = L.filter (fun z => !p z) := by unfold KeepsG; rw [List.take_of_length_le (by omega)]
        have HKF := Lib.hid hKf
        have HKK := Lib.hid hkk
        rw [hkk] at hkj y2 ⊢
        obtain ⟨zs, k1, k2, k3⟩ := ownG_cells (List.replicate (j - kk) (Value.int .i64 0)) kk wr ys y1 (by simp; omega)
        have hcs : ∀ q, q < j - kk → (wr.cell? ⟨g, kk + q, none⟩).isSome = true := fun q hq => by
          rw [y1.cellAt (kk + q) (by omega), List.getElem?_eq_getElem (by omega)]; rfl
        have hcf : ∀ q, q < j - kk → wr.frozen? ⟨g, kk + q, none⟩ = false := fun q hq => y1.frozenAt (kk + q)
        have hzv : ∀ w : World, (zeroValue 2).run Tryz.prog w = .ok (.int .i64 0) w := fun w => by kernel_rfl
        have hrun : ∀ ty c', (Builtin.clear_ #[28] ty #[.slice (some ⟨g, kk, none⟩) (j - kk) c']).run Tryz.prog wr = .ok (.tuple #[]) (wr.setCells g kk (List.replicate (j - kk) (Value.int .i64 0))) := fun ty c' =>
          Lib.run_clear_slice (P := Tryz.prog) wr 28 2 ty (.int .i64 0) Tryz.underlying28 hzv rfl rfl g kk (j - kk) c' (by omega) hcs hcf
        have hcut := cutG_own k1 (k := kk) (by omega)
        rw [k2, y2.out, hKf] at hcut
        have hfl : (L.filter fun z => !p z).length = kk := by rw [← hKf]; exact hkk
        have HFL := Lib.hid hfl
        have HIN := Lib.hid (OwnL.of_own (zs := L.filter fun z => !p z) hcut).all
        have hbb := Lib.hid (hb.grown k3 (Nat.le_trans hbw hsw) (fun q hq => by injection hq with hq; omega))
        have i1 : (kk : Int) < (j : Int) := by omega
        have i2 : (kk : Int) ≤ (j : Int) := by omega
        have i3 : (0 : Int) ≤ (kk : Int) := by omega
        have i4 : (kk : Int) ≤ (vc : Int) := by omega
        have i5 : (j : Int) ≤ (vc : Int) := by omega
        clear k1 k2 k3 hcs hcf hzv hcut hKf hkk hfl y1 y2 y3 hb HF HO
        generalize wr.setCells g kk (List.replicate (j - kk) (Value.int .i64 0)) = W2 at hrun HIN hbb
        go_wp2_with fail
        go_ret
        refine ⟨_, vc, by rw [HFL.out]; rfl, ?_, hbb.out⟩
        rw [HFL.out]
        exact HIN.out
end
end Go.Proofs.YtffkdidgfeknkaaGreatDoor
