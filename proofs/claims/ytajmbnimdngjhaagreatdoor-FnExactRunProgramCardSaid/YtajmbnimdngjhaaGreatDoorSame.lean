/-
  Whether two terms are the same: the model's and the program's. Conditions: at most 2^20 coefficients.
-/
import Derived.Test.YtajmbnimdngjhaaGreatDoorSpecT1
import Derived.Test.YtajmbnimdngjhaaGreatDoorSparse
import Derived.Test.YtajmbnimdngjhaaGreatDoorEq
import Derived.BigQuiet
import Derived.Deep.QuietTactic
import Derived.Deep.RegionWith
import Derived.Deep.RegionHeld3
namespace Go.Proofs.YtajmbnimdngjhaaGreatDoor
open Go.RowKit

def sameT (a b : Int × List Int) : Bool := tmB a && (tmB b && decide (a = b))
theorem sameT_no {a b : Int × List Int} (h : tmB a = false) : sameT a b = false := by unfold sameT; rw [h]; rfl
theorem sameT_no2 {a b : Int × List Int} (h : tmB b = false) : sameT a b = false := by unfold sameT; rw [h]; simp
theorem sameT_is {a b : Int × List Int} (h : tmB a = true) (g : tmB b = true) : sameT a b = decide (a = b) := by unfold sameT; rw [h, g]; simp
theorem len_le {a b : Int × List Int} (hb : tmB b = true) (h : ∀ i, a.2.getD i 0 = b.2.getD i 0) : b.2.length ≤ a.2.length := by
  rcases Nat.lt_or_ge a.2.length b.2.length with hl | hl
  · have h4 := (tmB_parts hb).2.2.2
    have hi := h (b.2.length - 1)
    rw [List.getD_eq_getElem?_getD, List.getElem?_eq_none (by omega), List.getD_eq_getElem?_getD, List.getElem?_eq_getElem (by omega)] at hi
    rw [List.getElem?_eq_getElem (by omega)] at h4
    exact absurd (congrArg some hi.symm) h4
  · exact hl
theorem summ_inj {a b : Int × List Int} (ha : tmB a = true) (hb : tmB b = true) (h : summ a = summ b) : a = b := by
  have hf : addT (fun _ => 0) 1 a = addT (fun _ => 0) 1 b := by rw [← addS_summ, ← addS_summ, h]
  have ht : ∀ k, tf a k = tf b k := fun k => by have := congrFun hf k; unfold addT at this; simpa using this
  have h1 : a.1 = b.1 := by have := ht (-1); rwa [tf_const, tf_const] at this
  have h2 : ∀ i : Nat, a.2.getD i 0 = b.2.getD i 0 := fun i => by have := ht i; rwa [tf_nat, tf_nat] at this
  have hl : a.2.length = b.2.length := Nat.le_antisymm (len_le ha fun i => (h2 i).symm) (len_le hb h2)
  have h3 : a.2 = b.2 := List.ext_getElem hl fun i p q => by
    have := h2 i
    rwa [List.getD_eq_getElem?_getD, List.getElem?_eq_getElem p, List.getD_eq_getElem?_getD, List.getElem?_eq_getElem q] at this
  exact Prod.ext h1 h3
theorem summ_same {a b : Int × List Int} (ha : tmB a = true) (hb : tmB b = true) : decide (summ a = summ b) = sameT a b := by
  rw [sameT_is ha hb]
  by_cases e : a = b
  · subst e; rw [decide_eq_true rfl, decide_eq_true rfl]
  · rw [decide_eq_false e, decide_eq_false (fun h => e (summ_inj ha hb h))]

theorem PRow.below {w w' : World} {lo : Nat} {A : Option Addr} {l : List (Int × Int)} (h : PRow w lo A l) (hg : Below w.heap.size w w') : PRow w' lo A l := fun j p hj => by
  obtain ⟨g, e, h1, h2, h3, h4⟩ := h j p hj
  exact ⟨g, e, h1, Nat.lt_of_lt_of_le h2 hg.size, cell_next h3 hg, cell_next h4 hg⟩
theorem ptake_step {l l' : List (Int × Int)} {k : Nat} {x : Int × Int} (h : l.take k = l'.take k) (hx : l[k]? = some x) (hx' : l'[k]? = some x) : Hid (l.take (k + 1) = l'.take (k + 1)) := by
  show _ = _
  rw [List.take_add_one, List.take_add_one, h, hx, hx']
theorem ptake_no {l l' : List (Int × Int)} {k : Nat} {x x' : Int × Int} (hx : l[k]? = some x) (hx' : l'[k]? = some x') (e : ¬ x = x') : Hid (¬ l = l') := by
  intro h; subst h; rw [hx] at hx'; exact e (Option.some.inj hx')

set_option maxRecDepth 100000 in
set_option maxHeartbeats 1000000 in
theorem equalP_c (A A' : Option Addr) (lo lo' c c' : Nat) (l l' : List (Int × Int)) (w : World) (h : PRow w lo A l) (h' : PRow w lo' A' l') (hn : l.length ≤ 100) (hn' : l'.length ≤ 100) :
    Calls Tryz.prog 161 #[.slice A l.length c, .slice A' l'.length c'] w fun e w' => e = .returned (.bool (decide (l = l'))) ∧ ∃ d, w' = w.drewN d := by
  obtain ⟨n, HN⟩ : ∃ n, Hid (l.length = n) := ⟨_, rfl⟩
  obtain ⟨n', HN'⟩ : ∃ n, Hid (l'.length = n) := ⟨_, rfl⟩
  rw [HN.out] at hn ⊢
  rw [HN'.out] at hn' ⊢
  by_cases hl : n = n'
  · subst hl
    go_enter Tryz.func161, Tryz.ntmps161
    go_wp2_with fail
    go_loopw [5, 13] (fun _ i wr => ∃ k d : Nat, k ≤ n ∧ i = .int .i64 k ∧ wr = w.drewN d ∧ Hid (l.take k = l'.take k)) (fun _ i _ => n - (intOf i).toNat)
    case atStart => exact ⟨0, 0, Nat.zero_le _, rfl, rfl, rfl⟩
    case round =>
      obtain ⟨k, d, hk, rfl, rfl, he⟩ := hrel
      by_cases hlt : k < n
      · obtain ⟨⟨s, x⟩, hx⟩ : ∃ p, l[k]? = some p := ⟨_, List.getElem?_eq_getElem (by have := HN.out; omega)⟩
        obtain ⟨⟨s', x'⟩, hx'⟩ : ∃ p, l'[k]? = some p := ⟨_, List.getElem?_eq_getElem (by have := HN'.out; omega)⟩
        obtain ⟨b, rfl, hb1, hb2, hb3, hb4⟩ := h k _ hx
        obtain ⟨b', rfl, hc1, hc2, hc3, hc4⟩ := h' k _ hx'
        simp only at hb3 hb4 hc3 hc4
        by_cases e1 : s = s'
        · by_cases e2 : x = x'
          · subst e1 e2
            have HE := ptake_step he.out hx hx'
            clear hx hx' he
            go_wp2
            go_quiet (fail)
            go_wp2
            go_roundw
            case rel => exact ⟨k + 1, _, by omega, by go_num, rfl, HE⟩
            case measure => simp [intOf]; omega
          · subst e1
            have HE := ptake_no hx hx' (fun e => e2 (congrArg Prod.snd e))
            have q1 : (x == x') = false := by simpa using e2
            have q2 : (x != x') = true := by simpa using e2
            clear hx hx' he e2
            go_wp2
            go_quiet (fail)
            go_wp2
            go_ret
            exact ⟨ret_bool (decide_eq_false HE.out).symm, by first | exact ⟨_, rfl⟩ | exact ⟨_, World.drewN_drewN _ _ _⟩⟩
        · have HE := ptake_no hx hx' (fun e => e1 (congrArg Prod.fst e))
          have q1 : (s == s') = false := by simpa using e1
          have q2 : (s != s') = true := by simpa using e1
          clear hx hx' he e1
          go_wp2
          go_quiet (fail)
          go_wp2
          go_ret
          exact ⟨ret_bool (decide_eq_false HE.out).symm, by first | exact ⟨_, rfl⟩ | exact ⟨_, World.drewN_drewN _ _ _⟩⟩
      · have HE : Hid (l = l') := by
          have h := he.out
          rwa [List.take_of_length_le (by have := HN.out; omega), List.take_of_length_le (by have := HN'.out; omega)] at h
        go_wp2
        go_ret
        exact ⟨ret_bool (decide_eq_true HE.out).symm, _, rfl⟩
  · have HE : Hid (¬ l = l') := fun e => hl (by rw [← HN.out, ← HN'.out, e])
    have q1 : ((n : Int) == (n' : Int)) = false := by simp; omega
    have q2 : ((n : Int) != (n' : Int)) = true := by simp; omega
    go_enter Tryz.func161, Tryz.ntmps161
    go_wp2_with fail
    go_ret
    exact ⟨ret_bool (decide_eq_false HE.out).symm, 0, rfl⟩

set_option maxRecDepth 100000 in
set_option maxHeartbeats 4000000 in
theorem implSame_c (c0 : Int) (A : Option Addr) (n cp : Nat) (zs : List Int) (c1 : Int) (A1 : Option Addr) (n1 cp1 : Nat) (vs : List Int) (w : World) (h0 : InL w w.heap.size A n zs) (g0 : n ≤ 1048576) (h1 : InL w w.heap.size A1 n1 vs) (g1 : n1 ≤ 1048576) :
    Calls Tryz.prog 146 #[.agg #[.int .i64 c0, .slice A n cp], .agg #[.int .i64 c1, .slice A1 n1 cp1]] w fun e w' => e = .returned (.bool (sameT (c0, zs) (c1, vs))) ∧ Below w.heap.size w w' := by
  have hb0 : Below w.heap.size w ((w.alloc (.cells #[.int .i64 c0, .slice A n cp] 81)).alloc (.cells #[.int .i64 c1, .slice A1 n1 cp1] 81)) := bon (bnew _ _) (bnew _ _)
  have b00 : ((w.alloc (.cells #[.int .i64 c0, .slice A n cp] 81)).alloc (.cells #[.int .i64 c1, .slice A1 n1 cp1] 81)).cell? ⟨w.heap.size, 0, none⟩ = some (.int .i64 c0) := by simp
  have b01 : ((w.alloc (.cells #[.int .i64 c0, .slice A n cp] 81)).alloc (.cells #[.int .i64 c1, .slice A1 n1 cp1] 81)).cell? ⟨w.heap.size, 1, none⟩ = some (.slice A n cp) := by simp
  have b10 : ((w.alloc (.cells #[.int .i64 c0, .slice A n cp] 81)).alloc (.cells #[.int .i64 c1, .slice A1 n1 cp1] 81)).cell? ⟨w.heap.size + 1, 0, none⟩ = some (.int .i64 c1) := by simp
  have b11 : ((w.alloc (.cells #[.int .i64 c0, .slice A n cp] 81)).alloc (.cells #[.int .i64 c1, .slice A1 n1 cp1] 81)).cell? ⟨w.heap.size + 1, 1, none⟩ = some (.slice A1 n1 cp1) := by simp
  have hi0 := Lib.hid (h0.next hb0 (Nat.le_refl _))
  have hi1 := Lib.hid (h1.next hb0 (Nat.le_refl _))
  clear h0 h1
  go_enter Tryz.func146, Tryz.ntmps146
  go_wp2_with fail
  generalize (w.alloc (.cells #[.int .i64 c0, .slice A n cp] 81)).alloc (.cells #[.int .i64 c1, .slice A1 n1 cp1] 81) = W at hb0 b00 b01 b10 b11 hi0 hi1 ⊢
  have hsW := hb0.size
  have HV := Lib.hid (fun (x : World) (h : Below W.drew.heap.size W.drew x) => implValid_c c0 A n cp w.heap.size zs x (hi0.out.call hsW h).2 (le_call hsW h) hi0.out.1 g0)
  have HU := Lib.hid (fun (x : World) (h : Below W.drew.heap.size W.drew x) => implValid_c c1 A1 n1 cp1 w.heap.size vs x (hi1.out.call hsW h).2 (le_call hsW h) hi1.out.1 g1)
  cases hv0 : tmB (c0, zs) with
  | false =>
    have HE := Lib.hid (sameT_no (b := (c1, vs)) hv0)
    rw [hv0] at HV
    clear hv0
    go_region_with (first | (go_at_call_of 133 A; with_reducible refine (HV.out _ (Below.refl _ _)).mono ?_; rintro e v1 ⟨rfl, x1⟩))
    all_goals
      go_wp2_with fail
      go_ret
      exact ⟨ret_bool HE.out.symm, bon hb0 (bstep x1)⟩
  | true =>
    have HV0 := Lib.hid hv0
    rw [hv0] at HV
    clear hv0
    cases hv1 : tmB (c1, vs) with
    | false =>
      have HE := Lib.hid (sameT_no2 (a := (c0, zs)) hv1)
      rw [hv1] at HU
      clear hv1
      go_region_with (first | (go_at_call_of 133 A; with_reducible refine (HV.out _ (Below.refl _ _)).mono ?_; rintro e v1 ⟨rfl, x1⟩; replace b00 := cell_on b00 x1; replace b01 := cell_on b01 x1; replace b10 := cell_on b10 x1; replace b11 := cell_on b11 x1)
                            | (go_at_call_of 133 A1; with_reducible refine (HU.out _ x1).mono ?_; rintro e v2 ⟨rfl, x2'⟩; have x2 := bon x1 x2'; clear x2'))
      all_goals
        go_wp2_with fail
        go_ret
        exact ⟨ret_bool HE.out.symm, bon hb0 (bstep x2)⟩
    | true =>
      have HE := Lib.hid (summ_same HV0.out hv1)
      have hna : n ≤ 10 := by have := (tmB_parts HV0.out).1; have := hi0.out.1; simp only at *; omega
      have hnb : n1 ≤ 10 := by have := (tmB_parts hv1).1; have := hi1.out.1; simp only at *; omega
      have HLa : Hid ((summ (c0, zs)).length ≤ 100) := by show _ ≤ _; have := summ_len (c0, zs); have := hi0.out.1; simp only at *; omega
      have HLb : Hid ((summ (c1, vs)).length ≤ 100) := by show _ ≤ _; have := summ_len (c1, vs); have := hi1.out.1; simp only at *; omega
      have HS := Lib.hid (fun (x : World) (h : Below W.drew.heap.size W.drew x) => summandsOf_c c0 A n cp w.heap.size zs x (hi0.out.call hsW h) (le_call hsW h) hna)
      have HT := Lib.hid (fun (x : World) (h : Below W.drew.heap.size W.drew x) => summandsOf_c c1 A1 n1 cp1 w.heap.size vs x (hi1.out.call hsW h) (le_call hsW h) hnb)
      rw [hv1] at HU
      clear hv1
      generalize summ (c0, zs) = l at HE HLa HS
      generalize summ (c1, vs) = l' at HE HLb HT
      have HQ := Lib.hid (fun (B1 B2 a1 a2 : Nat) (R S : Option Addr) (x : World) (p : PRow x B1 R l) (q : PRow x B2 S l') => (equalP_c R S B1 B2 a1 a2 l l' x p q HLa.out HLb.out).mono (R' := fun e w' => e = .returned (.bool (decide (l = l'))) ∧ Below x.heap.size x w') (fun e w' ⟨he, d, hw⟩ => ⟨he, hw ▸ below_drewN (Below.refl _ _) d⟩))
      go_region_held3 (fun w' => w'.cell? ⟨w.heap.size, 0, none⟩ = some (.int .i64 c0) ∧ w'.cell? ⟨w.heap.size, 1, none⟩ = some (.slice A n cp) ∧ w'.cell? ⟨w.heap.size + 1, 0, none⟩ = some (.int .i64 c1) ∧ w'.cell? ⟨w.heap.size + 1, 1, none⟩ = some (.slice A1 n1 cp1))
        (first | go_keep | exact ⟨cell_on b00 x1, cell_on b01 x1, cell_on b10 x1, cell_on b11 x1⟩ | exact ⟨cell_on b00 x2, cell_on b01 x2, cell_on b10 x2, cell_on b11 x2⟩ | exact ⟨cell_on b00 x3, cell_on b01 x3, cell_on b10 x3, cell_on b11 x3⟩ | exact ⟨cell_on b00 x4, cell_on b01 x4, cell_on b10 x4, cell_on b11 x4⟩ | exact ⟨cell_on b00 x5, cell_on b01 x5, cell_on b10 x5, cell_on b11 x5⟩)
        (first | (go_at_call_of 133 A; with_reducible refine (HV.out _ (Below.refl _ _)).mono ?_; rintro e v1 ⟨rfl, x1⟩)
                 | (go_at_call_of 133 A1; with_reducible refine (HU.out _ x1).mono ?_; rintro e v2 ⟨rfl, x2'⟩; have x2 := bon x1 x2'; clear x2')
                 | (go_at_call_of 162 A; with_reducible refine (HS.out _ x2).mono ?_; rintro e v3 ⟨y3, rfl, o3, x3'⟩; have x3 := bon x2 x3'; obtain ⟨R3, a3, rfl, p3⟩ := prow_of_own o3; clear x3' o3)
                 | (go_at_call_of 162 A1; with_reducible refine (HT.out _ x3).mono ?_; rintro e v4 ⟨y4, rfl, o4, x4'⟩; have x4 := bon x3 x4'; obtain ⟨R4, a4, rfl, p4⟩ := prow_of_own o4; have p3' := p3.below x4'; clear x4' o4)
                 | (go_at_call 161; with_reducible refine (HQ.out _ _ _ _ _ _ _ p3' p4).mono ?_; rintro e v5 ⟨rfl, x5'⟩; have x5 := bon x4 x5'; clear x5'))
      all_goals
        go_wp2_with fail
        go_ret
        exact ⟨ret_bool HE.out, bon hb0 (bstep x5)⟩
end Go.Proofs.YtajmbnimdngjhaaGreatDoor
