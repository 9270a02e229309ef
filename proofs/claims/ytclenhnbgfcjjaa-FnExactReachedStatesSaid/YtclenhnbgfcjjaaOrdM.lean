/-
  The states that are reached, in the model. Conditions: valid policies.
-/
import Derived.Test.YtclenhnbgfcjjaaUnfP
import Derived.Test.YtclenhnbgfcjjaaPolS
namespace Go.Proofs.Ytclenhnbgfcjjaa
set_option linter.unusedVariables false
open Go.RowKit

/-- The step of a policy, over whole numbers. -/
def stP (xs : List (List Int)) (x : Int) (e : Nat) : Int × Bool := stR xs x.toNat e
theorem stP_no {xs : List (List Int)} {x e : Nat} (h : nxP xs x e < 0) : (stP xs (x : Int) e).2 = false := by unfold stP; rw [Int.toNat_natCast, stR_no h]
theorem stP_yes {xs : List (List Int)} {x e : Nat} (h : ¬ nxP xs x e < 0) : stP xs (x : Int) e = (nxP xs x e, true) := by unfold stP; rw [Int.toNat_natCast, stR_yes h]
theorem stP_stays {xs : List (List Int)} (ok : PolOk xs) : Stays (stP xs) xs.length := fun x e h0 h1 he hv => by
  obtain ⟨k, rfl⟩ : ∃ k : Nat, x = k := ⟨x.toNat, by omega⟩
  obtain ⟨_, _, _, _, ha, hb⟩ := ok.at_ (s := k) (e := e) (by omega) he
  by_cases hq : nxP xs k e < 0
  · rw [stP_no hq] at hv; cases hv
  · rw [stP_yes hq]; exact ⟨by show 0 ≤ nxP xs k e; omega, by show nxP xs k e < _; omega⟩

set_option maxRecDepth 100000 in
set_option maxHeartbeats 2000000 in
theorem l00Has_c (A : Option Addr) (n c B : Nat) (zs : List Int) (x : Int) (w : World) (h : InL w B A n zs) (hn : n ≤ 1048576) :
    Calls Try.prog 94 #[.slice A n c, .int .i64 x] w fun e w' => e = .returned (.bool (decide (x ∈ zs))) ∧ w = w' := by
  have hlen := Lib.hid h.1
  have HX := Lib.hid h
  clear h
  go_enter Try.func94, Try.ntmps94
  go_wp2_with fail
  go_loop [5] (fun i => ∃ j : Nat, j ≤ n ∧ i = .int .i64 j ∧ Hid (x ∉ zs.take j)) (fun i => n - (intOf i).toNat)
  case atStart => exact ⟨0, Nat.zero_le _, rfl, by show x ∉ _; simp⟩
  case round =>
    obtain ⟨j, hj, rfl, ha⟩ := hrel
    by_cases hlt : j < n
    · obtain ⟨b, off, y, rfl, hb, hy, hc⟩ := HX.out.2.int_at (k := j) (by have := hlen.out; omega)
      by_cases e : y = x
      · have HN : Hid (decide (x ∈ zs) = true) := decide_eq_true (by subst e; exact List.mem_of_getElem? hy)
        have q1 : (y == x) = true := by simpa using e
        clear hy e
        go_wp2_with fail
        go_ret
        exact ⟨ret_bool HN.out.symm, rfl⟩
      · have HT : Hid (x ∉ zs.take (j + 1)) := by
          show x ∉ _
          rw [List.take_add_one, hy]
          intro hm
          rcases List.mem_append.1 hm with h' | h'
          · exact ha.out h'
          · simp at h'; exact e h'.symm
        have q1 : (y == x) = false := by simpa using e
        clear hy e
        go_wp2_with fail
        go_round
        case rel => exact ⟨j + 1, by omega, by go_num, HT⟩
        case measure => simp [intOf]; omega
    · have HN : Hid (decide (x ∈ zs) = false) := decide_eq_false (by have := ha.out; rwa [List.take_of_length_le (by have := hlen.out; omega)] at this)
      go_wp2_with fail
      go_ret
      exact ⟨ret_bool HN.out.symm, rfl⟩

theorem below_drewN {B : Nat} {a w : World} (h : Below B a w) (d : Nat) : Below B a (w.drewN d) := ⟨h.os, h.tape, h.output, h.size, h.block⟩
theorem getElem?_prefix {α : Type} {a b : List α} {k : Nat} {x : α} (h : a <+: b) (hx : a[k]? = some x) : b[k]? = some x := by
  obtain ⟨t, rfl⟩ := h
  rw [List.getElem?_append_left (List.getElem?_eq_some_iff.1 hx).1]; exact hx

set_option maxRecDepth 100000 in
set_option maxHeartbeats 4000000 in
theorem l10Order_c (b o : Nat) (A : Option Addr) (n c B : Nat) (xs : List (List Int)) (w : World) (p0 : w.cell? ⟨b, o, none⟩ = some (.slice A n c)) (h : InLL w B A n xs) (hB : B ≤ w.heap.size) (ok : PolOk xs) :
    Calls Try.prog 57 #[.pointer (some ⟨b, o, none⟩)] w fun e w' => ∃ v, e = .returned v ∧ Hid (∃ L R, UnfEnd (stP xs) 0 L R ∧ w'.ownsRow w.heap.size 2 1 v L.length (L.map ic)) ∧ Below w.heap.size w w' := by
  obtain ⟨i0, hi, hz0, hz1, hz2⟩ := info_parts info64
  have hst := stP_stays ok
  have h12 := ok.hi
  have h0 : (0 : Int) ≤ 0 ∧ (0 : Int) < (xs.length : Int) := by have := ok.lo; omega
  have HOK := Lib.hid ok
  have HX := Lib.hid h
  have hxl : xs.length = n := h.1
  clear ok h
  go_enter Try.func57, Try.ntmps57
  go_wp2_with fail
  have hrow0 : (w.alloc (.cells #[.int .i64 0] 2)).ownsRow w.heap.size 2 1 (.slice (some ⟨w.heap.size, 0, none⟩) 1 1) 1 ([(0 : Int)].map ic) := ⟨rfl, .inr ⟨w.heap.size, 1, #[.int .i64 0], rfl, Nat.le_refl _, heap_alloc_new w _, Nat.le_refl _, by unfold maxLen; omega, rfl, rfl⟩⟩
  have hb0 := bnew w (.cells #[.int .i64 0] 2)
  generalize w.alloc (.cells #[.int .i64 0] 2) = W0 at hrow0 hb0 ⊢
  go_loopw [3, 4, 5, 6] (fun v i _ _ wr => ∃ k : Nat, i = .int .i64 k ∧ k ≤ (unf (stP xs) 0 k).1.length ∧ wr.ownsRow w.heap.size 2 1 v (unf (stP xs) 0 k).1.length ((unf (stP xs) 0 k).1.map ic) ∧ Below w.heap.size w wr) (fun _ i _ _ _ => 20 - (intOf i).toNat)
  case atStart => exact ⟨0, rfl, Nat.zero_le _, hrow0, hb0⟩
  case round =>
    clear hrow0 hb0
    obtain ⟨k, rfl, hk, hrow, hbel⟩ := hrel
    have hAm := unf_among hst h0 k
    have hlen := hAm.len
    have HN := Lib.hid (fun x (hx : (unf (stP xs) 0 k).1[k]? = some x) => unf_next hx)
    have HE : Hid (k = (unf (stP xs) 0 k).1.length → UnfEnd (stP xs) 0 (unf (stP xs) 0 k).1 (unf (stP xs) 0 k).2) := fun e => ⟨k, rfl, e⟩
    obtain ⟨L, hL⟩ : ∃ L, (unf (stP xs) 0 k).1 = L := ⟨_, rfl⟩
    rw [hL] at hk hrow hAm hlen HN HE
    have HLL := Lib.hid hL
    clear hL
    obtain ⟨A1, c1, rfl, _⟩ := own_slice hrow
    by_cases hlt : k < L.length
    · obtain ⟨x0, hx0⟩ : ∃ x, L[k]? = some x := ⟨_, List.getElem?_eq_getElem hlt⟩
      have hxr := hAm.2 x0 (List.mem_of_getElem? hx0)
      obtain ⟨x, rfl⟩ : ∃ x : Nat, x0 = x := ⟨x0.toNat, by omega⟩
      have hxn : x < n := by omega
      have i1 : (k : Int) < (L.length : Int) := by omega
      have HXK := Lib.hid hx0
      have HAM := Lib.hid hAm
      have HNX := Lib.hid (HN.out _ hx0)
      clear hx0 HN
      obtain ⟨m, hm⟩ : ∃ m, L.length = m := ⟨_, rfl⟩
      rw [hm] at hlt hrow i1 hlen hk ⊢
      have HML := Lib.hid hm
      clear hm
      go_wp2_with fail
      have hE0 : ∃ M, Hid (evT (stP xs) (x : Int) L 0 = M) ∧ wr.ownsRow w.heap.size 2 1 (.slice A1 m c1) M.1.length (M.1.map ic) := ⟨_, rfl, by show wr.ownsRow _ _ _ _ L.length (L.map ic); rw [HML.out]; exact hrow⟩
      clear hrow
      go_loopw [3, 5, 6] (fun v e _ wr => ∃ (j : Nat) (M : List Int × List Int), j ≤ 4 ∧ e = .int .i64 j ∧ Hid (evT (stP xs) (x : Int) L j = M) ∧ wr.ownsRow w.heap.size 2 1 v M.1.length (M.1.map ic) ∧ Below w.heap.size w wr) (fun _ e _ _ => 4 - (intOf e).toNat)
      case atStart =>
        obtain ⟨M, h1, h2⟩ := hE0
        exact ⟨0, M, Nat.zero_le _, rfl, h1, by
          have e : M.1.length = m := by rw [← h1.out]; exact HML.out
          rw [e] at h2 ⊢
          exact h2, hbel⟩
      case round =>
        clear hE0 hbel
        obtain ⟨j, M, hj, rfl, hM, hrow, hbel⟩ := hrel
        have hsz := hbel.size
        replace p0 := cell_next p0 hbel
        obtain ⟨A2, c2, rfl, _⟩ := own_slice hrow
        by_cases hlt4 : j < 4
        · obtain ⟨b1, off1, A3, c3, b2, off2, rfl, q0, rfl, q1⟩ := (HX.out.next hbel hB).cell_at HOK.out (s := x) (e := j) hxn hlt4
          have hev := evT_among hst (x := (x : Int)) (by omega) HAM.out j (by omega)
          rw [hM.out] at hev
          have hpx := getElem?_prefix hev.2.1 HXK.out
          have hkM := (List.getElem?_eq_some_iff.1 hpx).1
          have hMl := hev.1.len
          obtain ⟨r, rfl⟩ : ∃ r, A2 = some ⟨r, 0, none⟩ := by
            rcases hrow.2 with h' | ⟨r, cap, cur, e1, _⟩
            · have := h'.2; omega
            · injection e1 with e1; exact ⟨r, e1⟩
          have q2 : wr.cell? ⟨r, k, none⟩ = some (.int .i64 (x : Int)) := by rw [hrow.cellAt k (by omega), List.getElem?_map, hpx]; rfl
          obtain ⟨_, _, _, _, hlo, _⟩ := HOK.out.at_ (s := x) (e := j) (by omega) hlt4
          have i2 : (k : Int) < (M.1.length : Int) := by omega
          have i3 : (x : Int) < (n : Int) := by omega
          have i4 : (j : Int) < 4 := by omega
          have HROW := Lib.hid hrow
          clear hpx hev
          by_cases hq : nxP xs x j < 0
          · have HS : Hid (evT (stP xs) (x : Int) L (j + 1) = M) := by show _ = _; rw [evT, evS_no (stP_no hq), hM.out]
            have hq2 : ¬ 0 ≤ nxP xs x j := by omega
            have hq3 : decide (0 ≤ nxP xs x j) = false := decide_eq_false hq2
            generalize nxP xs x j = y at q1 hq hq2 hq3 hlo ⊢
            clear hrow
            go_wp2_with fail
            go_quiet (fail)
            go_wp2_with fail
            go_roundw
            case rel => exact ⟨j + 1, M, by omega, by go_num, HS, HROW.out, below_drewN hbel _⟩
            case measure => simp [intOf]; omega
          · have hy2 : 0 ≤ nxP xs x j := by omega
            have hq3 : decide (0 ≤ nxP xs x j) = true := decide_eq_true hy2
            have hS1 : evT (stP xs) (x : Int) L (j + 1) = (addL (nxP xs x j) M.1, M.2.set j ((addL (nxP xs x j) M.1).idxOf (nxP xs x j) : Int)) := by rw [evT, evS_yes (by rw [stP_yes hq]), hM.out, stP_yes hq]
            by_cases hmem : nxP xs x j ∈ M.1
            · rw [addL_old hmem] at hS1
              have HS := Lib.hid hS1
              have HH0 := fun W (hb : Below wr.heap.size wr W) => l00Has_c (some ⟨r, 0, none⟩) M.1.length c2 wr.heap.size M.1 (nxP xs x j) W ((show InL wr wr.heap.size (some ⟨r, 0, none⟩) M.1.length M.1 from (OwnL.of_own hrow).inn).next hb (Nat.le_refl _)) (by omega)
              have hdec : decide (nxP xs x j ∈ M.1) = true := decide_eq_true hmem
              rw [hdec] at HH0
              have HH := Lib.hid HH0
              clear HH0 hdec hmem hS1 hrow
              obtain ⟨z, HZ⟩ : ∃ z, Hid (M.2.set j (M.1.idxOf (nxP xs x j) : Int) = z) := ⟨_, rfl⟩
              rw [HZ.out] at HS
              generalize nxP xs x j = y at q1 hq hy2 hq3 hlo HH HZ ⊢
              go_wp2_with fail
              go_quiet (fail)
              go_wp2_with (go_at_call 94; refine (HH.out _ (by first | exact (Below.refl _ _).drew | exact ⟨rfl, rfl, rfl, Nat.le_refl _, fun _ _ => rfl⟩)).mono ?_; rintro e w3 ⟨rfl, rfl⟩)
              go_roundw
              case rel => exact ⟨j + 1, (M.1, z), by omega, by go_num, HS, HROW.out, below_drewN hbel _⟩
              case measure => simp [intOf]; omega
            · rw [addL_new hmem] at hS1
              have HS := Lib.hid hS1
              have HH0 := fun W (hb : Below wr.heap.size wr W) => l00Has_c (some ⟨r, 0, none⟩) M.1.length c2 wr.heap.size M.1 (nxP xs x j) W ((show InL wr wr.heap.size (some ⟨r, 0, none⟩) M.1.length M.1 from (OwnL.of_own hrow).inn).next hb (Nat.le_refl _)) (by omega)
              have hdec : decide (nxP xs x j ∈ M.1) = false := decide_eq_false hmem
              rw [hdec] at HH0
              have HH := Lib.hid HH0
              clear HH0 hdec hmem hS1
              obtain ⟨z, HZ⟩ : ∃ z, Hid (M.2.set j ((M.1 ++ [nxP xs x j]).idxOf (nxP xs x j) : Int) = z) := ⟨_, rfl⟩
              rw [HZ.out] at HS
              generalize nxP xs x j = y at q1 hq hy2 hq3 hlo HH HZ HS ⊢
              obtain ⟨N2, hN2⟩ : ∃ N2, M.1 ++ [y] = N2 := ⟨_, rfl⟩
              have HN2 := Lib.hid hN2
              rw [hN2] at HS
              clear hN2
              go_wp2_with fail
              go_quiet (fail)
              go_wp2_with (first
                | (go_at_call 94; refine (HH.out _ (by first | exact (Below.refl _ _).drew | exact ⟨rfl, rfl, rfl, Nat.le_refl _, fun _ _ => rfl⟩)).mono ?_; rintro e w3 ⟨rfl, rfl⟩)
                | (at_builtin; refine wpList_append_own _ rfl _ _ 34 rfl w.heap.size 2 i0 (.int .i64 0) 1 8 Try.underlying34 hi hz0 hz1 hz2 rfl (by decide) _ _ _ rfl (by first | exact hrow.drew.alloc _ | exact (hrow : World.ownsRow _ _ _ _ _ _ _).alloc _) ⟨wr.heap.size, 0, none⟩ 1 1 [.int .i64 y] rfl rfl (cell_one_new _ _ _) (by simp [Value.oneCell']) (by unfold maxLen; omega) (by omega) (by simp; omega) ?_; intro v1 w4 hown4 hgrow4 _))
              go_roundw
              case rel =>
                refine ⟨j + 1, (N2, z), by omega, by go_num, HS, ?_, ?_⟩
                · show w4.ownsRow _ _ _ _ N2.length (N2.map ic)
                  rw [← HN2.out, List.length_append, List.map_append]
                  exact hown4
                · exact ((below_drewN hbel _).alloc (by show w.heap.size ≤ wr.heap.size; omega) _).grown hgrow4 (by simp; omega) (fun k hk => (HROW.out.lt k hk).1)
              case measure => simp [intOf]; omega
        · have hj4 : j = 4 := by omega
          subst hj4
          have hNX2 : Hid ((unf (stP xs) 0 (k + 1)).1 = M.1) := by
            show _ = _
            rw [HNX.out]
            show (evT (stP xs) (x : Int) L 4).1 = M.1
            rw [hM.out]
          have hpl := (evT_among hst (x := (x : Int)) (by omega) HAM.out 4 (by omega)).2.1.length_le
          rw [hM.out] at hpl
          have hMk : k + 1 ≤ M.1.length := by have := HML.out; omega
          have HROW := Lib.hid hrow
          have hMl := (evT_among hst (x := (x : Int)) (by omega) HAM.out 4 (by omega)).1.len
          rw [hM.out] at hMl
          clear hrow
          go_wp2_with fail
          go_roundw
          case rel => exact ⟨k + 1, by go_num, by rw [hNX2.out]; exact hMk, by rw [hNX2.out]; exact HROW.out, hbel⟩
          case measure => simp [intOf]; omega
    · have e : k = L.length := by omega
      have HEE := Lib.hid (HE.out e)
      have HROW := Lib.hid hrow
      have i1 : ¬ (k : Int) < (L.length : Int) := by omega
      clear hrow HE
      obtain ⟨m, hm⟩ : ∃ m, L.length = m := ⟨_, rfl⟩
      rw [hm] at i1 ⊢
      have HM := Lib.hid hm
      clear hm e
      go_wp2_with fail
      go_ret
      refine ⟨.slice A1 m c1, rfl, ⟨L, ⟨_, HEE.out⟩, ?_⟩, hbel⟩
      have := HROW.out
      rw [HM.out] at this ⊢
      exact this
end Go.Proofs.Ytclenhnbgfcjjaa
