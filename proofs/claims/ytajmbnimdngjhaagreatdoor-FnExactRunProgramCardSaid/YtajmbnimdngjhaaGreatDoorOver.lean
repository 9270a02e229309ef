/-
  Terms over variables: what the model's l03Term and l03Terms give. Conditions: at most 2^20 terms and coefficients.
-/
import Derived.Test.YtajmbnimdngjhaaGreatDoorValid
import Derived.Test.YtajmbnimdngjhaaGreatDoorTermsK
namespace Go.Proofs.YtajmbnimdngjhaaGreatDoor
set_option linter.unusedVariables false
open Go.RowKit

/-- A valid term over variables alone. -/
def overB (t : Int × List Int) : Bool := tmB t && decide (t.2.length ≤ 4)
theorem overB_no {t : Int × List Int} (h : tmB t = false) : overB t = false := by unfold overB; rw [h]; rfl
theorem overB_long {t : Int × List Int} (h : 4 < t.2.length) : overB t = false := by unfold overB; rw [decide_eq_false (by omega)]; simp
theorem overB_is {t : Int × List Int} (h : tmB t = true) (hl : t.2.length ≤ 4) : overB t = true := by unfold overB; rw [h, decide_eq_true hl]; rfl
/-- So many valid terms over variables. -/
def oversB (m : Nat) (ts : List (Int × List Int)) : Bool := ts.all overB && decide (ts.length ≤ m)
theorem oversB_no {m : Nat} {ts : List (Int × List Int)} {k : Nat} {t : Int × List Int} (ht : ts[k]? = some t) (h : overB t = false) : oversB m ts = false := by
  have : ts.all overB = false := by
    rw [List.all_eq_false]
    exact ⟨t, List.mem_of_getElem? ht, by rw [h]; simp⟩
  unfold oversB; rw [this]; rfl
theorem oversB_long {m : Nat} {ts : List (Int × List Int)} (h : m < ts.length) : oversB m ts = false := by unfold oversB; rw [decide_eq_false (by omega)]; simp
theorem oversB_is {m : Nat} {ts : List (Int × List Int)} (h : ∀ t ∈ ts, overB t = true) (hl : ts.length ≤ m) : oversB m ts = true := by
  unfold oversB; rw [decide_eq_true hl, List.all_eq_true.2 h]; rfl
theorem all_succ {p : Int × List Int → Prop} {ts : List (Int × List Int)} {k : Nat} {t : Int × List Int} (h : ∀ u ∈ ts.take k, p u) (ht : ts[k]? = some t) (hp : p t) : ∀ u ∈ ts.take (k + 1), p u := by
  intro u hu
  rw [List.take_add_one, ht] at hu
  rcases List.mem_append.1 hu with h1 | h1
  · exact h u h1
  · obtain rfl : u = t := by simpa using h1
    exact hp

set_option maxRecDepth 100000 in
set_option maxHeartbeats 1000000 in
theorem l03Term_o (b o : Nat) (c0 : Int) (A : Option Addr) (n c B : Nat) (zs : List Int) (w : World) (hc0 : w.cell? ⟨b, o, none⟩ = some (.int .i64 c0)) (hc1 : w.cell? ⟨b, o + 1, none⟩ = some (.slice A n c))
    (h : InL w B A n zs) (hn : n ≤ 1048576) :
    Calls Tryz.prog 97 #[.pointer (some ⟨b, o, none⟩)] w fun e w' => e = .returned (.bool (overB (c0, zs))) ∧ w = w' := by
  have HI := Lib.hid (l02Is_c b o c0 A n c B zs w hc0 hc1 h.2 h.1 hn)
  have hlen := h.1
  rcases htm : tmB (c0, zs)
  · have HV := Lib.hid (overB_no htm)
    go_enter Tryz.func97, Tryz.ntmps97
    go_wp2_with (first | (go_at_call 130; refine HI.out.mono ?_; rintro e w' ⟨rfl, rfl⟩; rw [htm]) | fail)
    go_ret
    exact ⟨ret_bool HV.out.symm, rfl⟩
  · by_cases hl : n ≤ 4
    · have HV := Lib.hid (overB_is (t := (c0, zs)) htm (by show zs.length ≤ 4; omega))
      have i1 : ((n : Int) ≤ 4) := by omega
      go_enter Tryz.func97, Tryz.ntmps97
      go_wp2_with (first | (go_at_call 130; refine HI.out.mono ?_; rintro e w' ⟨rfl, rfl⟩; rw [htm]) | fail)
      go_ret
      exact ⟨ret_bool HV.out.symm, rfl⟩
    · have HV := Lib.hid (overB_long (t := (c0, zs)) (by show 4 < zs.length; omega))
      have i1 : ¬ ((n : Int) ≤ 4) := by omega
      go_enter Tryz.func97, Tryz.ntmps97
      go_wp2_with (first | (go_at_call 130; refine HI.out.mono ?_; rintro e w' ⟨rfl, rfl⟩; rw [htm]) | fail)
      go_ret
      exact ⟨ret_bool (by rw [HV.out]; exact decide_eq_false (by omega)), rfl⟩

set_option maxRecDepth 100000 in
set_option maxHeartbeats 1000000 in
theorem l03Terms_c (A : Option Addr) (n c B m : Nat) (ts : List (Int × List Int)) (w : World) (h : InTS w B A n ts) (hn : n ≤ 1048576) (he : totT ts ≤ 1048576) (hm : m ≤ 1000) :
    Calls Tryz.prog 65 #[.slice A n c, .int .i64 (m : Int)] w fun e w' => e = .returned (.bool (oversB m ts)) ∧ w = w' := by
  have hlen := Lib.hid h.1
  go_enter Tryz.func65, Tryz.ntmps65
  go_wp2_with fail
  go_loop [5] (fun i => ∃ j : Nat, j ≤ n ∧ i = .int .i64 j ∧ Hid (∀ t ∈ ts.take j, overB t = true)) (fun i => n - (intOf i).toNat)
  case atStart => exact ⟨0, Nat.zero_le _, rfl, by intro z hz; simp at hz⟩
  case round =>
    obtain ⟨j, hj, rfl, ha⟩ := hrel
    by_cases hlt : j < n
    · obtain ⟨b, off, A', n', c', t, rfl, hb, ht, hc0, hc1, hin⟩ := h.at_ hlt
      have hmx := totT_mem (List.mem_of_getElem? ht)
      rw [hin.1] at hmx
      have HI := Lib.hid (l03Term_o b (off + j * 2) t.1 A' n' c' B t.2 w hc0 hc1 hin (by omega))
      have HX := Lib.hid ht
      clear hc0 hc1 hin ht
      rcases htm : overB (t.1, t.2)
      · have HV := Lib.hid (oversB_no (m := m) HX.out htm)
        go_wp2_with (first | (go_at_call 97; refine HI.out.mono ?_; rintro e w' ⟨rfl, rfl⟩; rw [htm]) | fail)
        go_ret
        exact ⟨ret_bool HV.out.symm, rfl⟩
      · have HV := Lib.hid (all_succ ha.out HX.out htm)
        go_wp2_with (first | (go_at_call 97; refine HI.out.mono ?_; rintro e w' ⟨rfl, rfl⟩; rw [htm]) | fail)
        go_round
        case rel => exact ⟨j + 1, by omega, by go_num, HV⟩
        case measure => simp [intOf]; omega
    · have hall : ∀ t ∈ ts, overB t = true := by
        intro t ht
        exact ha.out t (by rw [List.take_of_length_le (by rw [hlen.out]; omega)]; exact ht)
      by_cases hnk : n ≤ m
      · have HT := Lib.hid (oversB_is (m := m) hall (by rw [hlen.out]; exact hnk))
        have q1 : ((n : Int) ≤ (m : Int)) := by omega
        clear hnk hall
        go_wp2_with fail
        go_ret
        exact ⟨ret_bool HT.out.symm, rfl⟩
      · have HT := Lib.hid (oversB_long (m := m) (ts := ts) (by rw [hlen.out]; omega))
        have q1 : ¬ ((n : Int) ≤ (m : Int)) := by omega
        clear hnk hall
        go_wp2_with fail
        go_ret
        exact ⟨ret_bool HT.out.symm, rfl⟩
end Go.Proofs.YtajmbnimdngjhaaGreatDoor
