/-
  Combinations of facts for values: the law's own test whether facts hold, and what a combination is. Conditions: valid facts, ten values that are not too great.
-/
import Derived.Test.YtddmpdpmgjggoaaLawG
import Derived.Test.YtddmpdpmgjggoaaDrawF
namespace Go.Proofs.Ytddmpdpmgjggoaa
open Go.RowKit
set_option linter.unusedVariables false

def evV (vs : List Int) (t : Int × List Int) : Int := evTo t vs t.2.length
def holdB (ts : List (Int × List Int)) (vs : List Int) : Bool := decide (∀ t ∈ ts, 0 ≤ evV vs t)
theorem holdB_no {ts : List (Int × List Int)} {t : Int × List Int} {vs : List Int} {k : Nat} (ht : ts[k]? = some t) (h : evV vs t < 0) : holdB ts vs = false :=
  decide_eq_false (fun a => by have := a t (List.mem_of_getElem? ht); omega)
theorem holdB_yes {ts : List (Int × List Int)} {vs : List Int} {k : Nat} (h : ∀ u ∈ ts.take k, 0 ≤ evV vs u) (hk : ts.length ≤ k) : holdB ts vs = true := by
  rw [take_all hk] at h
  exact decide_eq_true h
theorem hold_step {ts : List (Int × List Int)} {vs : List Int} {k : Nat} {t : Int × List Int} (h : ∀ u ∈ ts.take k, 0 ≤ evV vs u) (ht : ts[k]? = some t) (hv : 0 ≤ evV vs t) : ∀ u ∈ ts.take (k + 1), 0 ≤ evV vs u := by
  intro u hu
  rw [List.take_add_one, ht, List.mem_append] at hu
  rcases hu with hu | hu
  · exact h u hu
  · obtain rfl := by simpa using hu
    exact hv
set_option maxRecDepth 100000 in
set_option maxHeartbeats 1000000 in
theorem b10Hold_c (A : Option Addr) (n c B : Nat) (ts : List (Int × List Int)) (D : Option Addr) (d : Nat) (vs : List Int) (w : World) (h : InTS w B A n ts) (h1 : InL w B D 10 vs) (hB : B ≤ w.heap.size) (hn : n ≤ 1048576)
    (hts : ∀ t ∈ ts, tmB t = true) (hvs : valsB vs = true) :
    Calls Try.prog 24 #[.slice A n c, .slice D 10 d] w fun e w' => e = .returned (.bool (holdB ts vs)) ∧ Below w.heap.size w w' := by
  have hlen := Lib.hid h.1
  have HT := Lib.hid hts
  have HI := Lib.hid h
  have H1 := Lib.hid h1
  clear hts h h1
  go_enter Try.func24, Try.ntmps24
  go_wp2_with fail
  go_loopw [5] (fun i wr => ∃ k : Nat, k ≤ n ∧ i = .int .i64 k ∧ Hid (∀ u ∈ ts.take k, 0 ≤ evV vs u) ∧ Below w.heap.size w wr) (fun i _ => n - (intOf i).toNat)
  case atStart => exact ⟨0, Nat.zero_le _, rfl, fun u hu => by simp at hu, Below.refl _ _⟩
  case round =>
    obtain ⟨k, hk, rfl, ha, hbel⟩ := hrel
    have hsz := hbel.size
    by_cases hlt : k < n
    · obtain ⟨b', off, A', n', c', t, rfl, hb', ht, hc0, hc1, hin⟩ := (HI.out.next hbel hB).at_ hlt
      have hvt : tmB (t.1, t.2) = true := HT.out t (List.mem_of_getElem? ht)
      have HE := Lib.hid (b10Value_c B t.1 A' n' c' t.2 D 10 d vs wr hin (H1.out.next hbel hB) (by omega) hvt hvs)
      have hS := Lib.hid (fun h => hold_step (vs := vs) ha.out ht h)
      have hN := Lib.hid (fun h => holdB_no (vs := vs) ht h)
      clear hin ht
      unfold evV at hS hN
      have et : evTo (t.1, t.2) vs t.2.length = evTo t vs t.2.length := rfl
      rw [et] at HE
      clear et
      generalize evTo t vs t.2.length = v at HE hS hN
      by_cases hv : v < 0
      · have HN := Lib.hid (hN.out hv)
        clear hS hN
        go_wp2_with fail
        refine HE.out.mono ?_
        rintro e w1 ⟨rfl, hb1⟩
        go_wp2_with fail
        go_ret
        exact ⟨ret_bool HN.out.symm, bon hbel hb1⟩
      · have HS := Lib.hid (hS.out (by omega))
        clear hS hN
        go_wp2_with fail
        refine HE.out.mono ?_
        rintro e w1 ⟨rfl, hb1⟩
        go_wp2_with fail
        go_roundw
        case rel => exact ⟨k + 1, by omega, by go_num, HS.out, bon hbel hb1⟩
        case measure => simp [intOf]; omega
    · have HY := Lib.hid (holdB_yes (vs := vs) ha.out (by have := hlen.out; omega))
      go_wp2_with fail
      go_ret
      exact ⟨ret_bool HY.out.symm, hbel⟩

/-- The combination of the facts' numbers, as far as the first k facts go. -/
def wantTo (ts : List (Int × List Int)) (vs ks : List Int) : Nat → Int
  | 0 => 0
  | k + 1 => wantTo ts vs ks k + ks.getD k 0 * evV vs (ts.getD k (0, []))
theorem want_app (ts : List (Int × List Int)) (vs ks : List Int) (x : Int) : ∀ j, j ≤ ks.length → wantTo ts vs (ks ++ [x]) j = wantTo ts vs ks j
  | 0, _ => rfl
  | j + 1, h => by
    simp only [wantTo]
    rw [want_app ts vs ks x j (by omega)]
    have e : (ks ++ [x]).getD j 0 = ks.getD j 0 := by
      rw [List.getD_eq_getElem?_getD, List.getD_eq_getElem?_getD, List.getElem?_append_left (by omega)]
    rw [e]
theorem want_next {ts : List (Int × List Int)} {vs ks : List Int} {x : Int} {k : Nat} {t : Int × List Int} (hk : ks.length = k) (ht : ts[k]? = some t) : wantTo ts vs (ks ++ [x]) (k + 1) = wantTo ts vs ks k + x * evV vs t := by
  subst hk
  simp only [wantTo]
  rw [want_app ts vs ks x _ (Nat.le_refl _)]
  have e : (ks ++ [x]).getD ks.length 0 = x := by
    rw [List.getD_eq_getElem?_getD, List.getElem?_append_right (Nat.le_refl _), Nat.sub_self]; rfl
  have e2 : ts.getD ks.length (0, []) = t := by rw [List.getD_eq_getElem?_getD, ht]; rfl
  rw [e, e2]
theorem want_pos {ts : List (Int × List Int)} {vs ks : List Int} (hk : ∀ z ∈ ks, 0 ≤ z ∧ z ≤ 5) (h : ∀ t ∈ ts, 0 ≤ evV vs t) : ∀ j, j ≤ ts.length → 0 ≤ wantTo ts vs ks j
  | 0, _ => Int.le_refl _
  | j + 1, hj => by
    have ih := want_pos hk h j (by omega)
    simp only [wantTo]
    have h1 : 0 ≤ ks.getD j 0 := by
      by_cases h0 : ks.getD j 0 = 0
      · omega
      · exact (hk _ (getD_mem h0)).1
    have h2 : 0 ≤ evV vs (ts.getD j (0, [])) := by
      have e : ts.getD j (0, []) = ts[j] := by rw [List.getD_eq_getElem?_getD, List.getElem?_eq_getElem (by omega)]; rfl
      rw [e]; exact h _ (List.getElem_mem _)
    have := Int.mul_nonneg h1 h2
    omega
theorem tf_leF {m : Int} {t : Int × List Int} (h : SmallT m 3 t) (hm : 3 ≤ m) (j : Int) : -m ≤ tf t j ∧ tf t j ≤ m := by
  obtain ⟨_, h1, h2, h3⟩ := h
  unfold tf
  by_cases a : j = -1
  · rw [if_pos a]; exact ⟨h1, h2⟩
  · rw [if_neg a]
    by_cases b : j < 0
    · rw [if_pos b]; omega
    · rw [if_neg b]
      by_cases h0 : t.2.getD j.toNat 0 = 0
      · omega
      · have := h3 _ (getD_mem h0); omega
theorem comb_small {ts : List (Int × List Int)} {ks : List Int} (ht : ∀ t ∈ ts, SmallT 50 3 t) (hk : ∀ z ∈ ks, 0 ≤ z ∧ z ≤ 5) : ∀ (k : Nat), k ≤ ts.length → ∀ j, -((k : Int) * 250) ≤ combTo ts ks k j ∧ combTo ts ks k j ≤ (k : Int) * 250
  | 0, _, j => by simp [combTo]
  | k + 1, h, j => by
    have ih := comb_small ht hk k (by omega) j
    have e : ts.getD k (0, []) = ts[k] := by rw [List.getD_eq_getElem?_getD, List.getElem?_eq_getElem (by omega)]; rfl
    have a := tf_leF (ht ts[k] (List.getElem_mem _)) (by omega) j
    have b : 0 ≤ ks.getD k 0 ∧ ks.getD k 0 ≤ 5 := by
      by_cases h0 : ks.getD k 0 = 0
      · omega
      · exact hk _ (getD_mem h0)
    have p := mul_le' (a := ks.getD k 0) (b := tf ts[k] j) (m := 5) (n := 50) (by omega) (by omega) a.1 a.2
    simp only [combTo]
    unfold addT
    rw [e]
    omega
theorem comb_valF {ts : List (Int × List Int)} {ks : List Int} (hl : ∀ t ∈ ts, t.2.length ≤ 10) (vs : List Int) : ∀ (k : Nat), k ≤ ts.length → valF (combTo ts ks k) vs 10 = wantTo ts vs ks k
  | 0, _ => by
    have e : ∀ k, valF (fun _ => 0) vs k = 0 := by
      intro k
      induction k with
      | zero => rfl
      | succ k ih => simp only [valF]; rw [ih, Int.zero_mul]; rfl
    exact e 10
  | k + 1, h => by
    have ih := comb_valF (ks := ks) hl vs k (by omega)
    have e : ts.getD k (0, []) = ts[k] := by rw [List.getD_eq_getElem?_getD, List.getElem?_eq_getElem (by omega)]; rfl
    simp only [combTo, wantTo]
    rw [valF_addT, ih, e, ← ev_ten (hl ts[k] (List.getElem_mem _))]
    rfl
/-- What the combination is. -/
theorem comb_val {ts : List (Int × List Int)} {ks : List Int} (h5 : ts.length ≤ 5) (ht : ∀ t ∈ ts, SmallT 50 3 t) (hkl : ks.length = ts.length) (hk : ∀ z ∈ ks, 0 ≤ z ∧ z ≤ 5) (vs : List Int) :
    ∃ r, combR ts ks = (r, true) ∧ tmB r = true ∧ evTo r vs r.2.length = wantTo ts vs ks ts.length := by
  obtain ⟨r, k1, k2, k3⟩ := mk_val (f := combTo ts ks ts.length) (fun j => by have := comb_small ht hk ts.length (Nat.le_refl _) j; omega) vs
  have ha : allT 14 ts = true := by
    unfold allT
    rw [decide_eq_true (fun t h => (ht t h).1), decide_eq_true (show ts.length ≤ 14 by omega)]; rfl
  have hb : btw 0 1000000 ks = true := decide_eq_true fun z hz => by have := hk z hz; omega
  exact ⟨r, by rw [combR_yes ha hkl hb]; exact k1, k2, by rw [k3, comb_valF (fun t h => (tmB_parts (ht t h).1).1) vs _ (Nat.le_refl _)]⟩
theorem tot_small {ts : List (Int × List Int)} (h : ∀ t ∈ ts, t.2.length ≤ 10) : totT ts ≤ 10 * ts.length := by
  induction ts with
  | nil => simp [totT]
  | cons t ts ih =>
    have h1 := h t (List.mem_cons_self ..)
    have h2 := ih fun u hu => h u (List.mem_cons_of_mem _ hu)
    unfold totT at h2 ⊢
    simp
    omega
end Go.Proofs.Ytddmpdpmgjggoaa
