/-
  Whether terms hold in a state: the model's answer and the program's. Conditions: at most 2^20 terms, coefficients and numbers.
-/
import Derived.Test.YtajmbnimdngjhaaGreatDoorStV
import Derived.Test.YtajmbnimdngjhaaGreatDoorEvTo
import Derived.BigQuiet
import Derived.Deep.QuietTactic
namespace Go.Proofs.YtajmbnimdngjhaaGreatDoor
set_option linter.unusedVariables false
open Go.RowKit

/-- A valid term over variables. -/
def ovB (t : Int × List Int) : Bool := tmB t && decide (t.2.length ≤ 4)
theorem ovB_no {t : Int × List Int} (h : tmB t = false) : ovB t = false := by unfold ovB; rw [h]; rfl
theorem ovB_is {t : Int × List Int} (h : tmB t = true) : ovB t = decide (t.2.length ≤ 4) := by unfold ovB; rw [h]; rfl
theorem ovB_parts {t : Int × List Int} (h : ovB t = true) : tmB t = true ∧ t.2.length ≤ 4 := by
  unfold ovB at h
  simp only [Bool.and_eq_true, decide_eq_true_eq] at h
  exact h
/-- All of some terms are, and they are not too many. -/
def allV (most : Nat) (ts : List (Int × List Int)) : Bool := decide (∀ t ∈ ts, ovB t = true) && decide (ts.length ≤ most)
theorem allV_step {ts : List (Int × List Int)} {k : Nat} {t : Int × List Int} (h : ∀ u ∈ ts.take k, ovB u = true) (ht : ts[k]? = some t) (hv : ovB t = true) : ∀ u ∈ ts.take (k + 1), ovB u = true := by
  intro u hu
  rw [List.take_add_one, ht] at hu
  simp only [Option.toList, List.mem_append, List.mem_singleton] at hu
  rcases hu with hu | rfl
  · exact h u hu
  · exact hv
theorem allV_no {most : Nat} {ts : List (Int × List Int)} {k : Nat} {t : Int × List Int} (ht : ts[k]? = some t) (hv : ovB t = false) : allV most ts = false := by
  unfold allV
  rw [decide_eq_false (fun a => by have := a t (List.mem_of_getElem? ht); rw [hv] at this; cases this)]; rfl
theorem allV_yes {most : Nat} {ts : List (Int × List Int)} {k : Nat} (h : ∀ u ∈ ts.take k, ovB u = true) (hk : ts.length ≤ k) : allV most ts = decide (ts.length ≤ most) := by
  rw [take_all hk] at h
  unfold allV; rw [decide_eq_true h]; rfl
theorem allV_parts {most : Nat} {ts : List (Int × List Int)} (h : allV most ts = true) : (∀ t ∈ ts, ovB t = true) ∧ ts.length ≤ most := by
  unfold allV at h
  simp only [Bool.and_eq_true, decide_eq_true_eq] at h
  exact h

set_option maxRecDepth 100000 in
set_option maxHeartbeats 1000000 in
theorem l03Term_c (b o : Nat) (c0 : Int) (A : Option Addr) (n c B : Nat) (zs : List Int) (w : World) (hc0 : w.cell? ⟨b, o, none⟩ = some (.int .i64 c0)) (hc1 : w.cell? ⟨b, o + 1, none⟩ = some (.slice A n c))
    (h : Row w B A (zs.map ic)) (hz : zs.length = n) (hn : n ≤ 1048576) :
    Calls Tryz.prog 97 #[.pointer (some ⟨b, o, none⟩)] w fun e w' => e = .returned (.bool (ovB (c0, zs))) ∧ w = w' := by
  have HI := Lib.hid (l02Is_c b o c0 A n c B zs w hc0 hc1 h hz hn)
  have hz' := Lib.hid hz
  clear h
  cases hv : tmB (c0, zs) with
  | true =>
    have HV := Lib.hid (ovB_is hv)
    rw [hv] at HI
    clear hv
    by_cases h4 : n ≤ 4
    · have HT : Hid (ovB (c0, zs) = true) := HV.out.trans (decide_eq_true (by show zs.length ≤ 4; omega))
      go_enter Tryz.func97, Tryz.ntmps97
      go_wp2_with fail
      refine HI.out.mono ?_
      rintro e w1 ⟨rfl, rfl⟩
      go_wp2_with fail
      go_ret
      exact ⟨ret_bool (by rw [HT.out]; exact decide_eq_true (by omega)), rfl⟩
    · have HT : Hid (ovB (c0, zs) = false) := HV.out.trans (decide_eq_false (by show ¬ zs.length ≤ 4; omega))
      go_enter Tryz.func97, Tryz.ntmps97
      go_wp2_with fail
      refine HI.out.mono ?_
      rintro e w1 ⟨rfl, rfl⟩
      go_wp2_with fail
      go_ret
      exact ⟨ret_bool (by rw [HT.out]; exact decide_eq_false (by omega)), rfl⟩
  | false =>
    have HT := Lib.hid (ovB_no hv)
    rw [hv] at HI
    clear hv
    go_enter Tryz.func97, Tryz.ntmps97
    go_wp2_with fail
    refine HI.out.mono ?_
    rintro e w1 ⟨rfl, rfl⟩
    go_wp2_with fail
    go_ret
    exact ⟨ret_bool HT.out.symm, rfl⟩

set_option maxRecDepth 100000 in
set_option maxHeartbeats 1000000 in
theorem l03TermsV_c (A : Option Addr) (n c B : Nat) (ts : List (Int × List Int)) (most : Nat) (w : World) (h : InTS w B A n ts) (hn : n ≤ 1048576) (he : totT ts ≤ 1048576) :
    Calls Tryz.prog 65 #[.slice A n c, .int .i64 (most : Int)] w fun e w' => e = .returned (.bool (allV most ts)) ∧ w = w' := by
  have hlen := Lib.hid h.1
  go_enter Tryz.func65, Tryz.ntmps65
  go_wp2_with fail
  go_loop [5] (fun i => ∃ k : Nat, k ≤ n ∧ i = .int .i64 k ∧ Hid (∀ u ∈ ts.take k, ovB u = true)) (fun i => n - (intOf i).toNat)
  case atStart => exact ⟨0, Nat.zero_le _, rfl, fun u hu => by simp at hu⟩
  case round =>
    obtain ⟨k, hk, rfl, ha⟩ := hrel
    by_cases hlt : k < n
    · obtain ⟨b, off, A', n', c', t, rfl, hb, ht, hc0, hc1, hin⟩ := h.at_ hlt
      have hmx := totT_mem (List.mem_of_getElem? ht)
      rw [hin.1] at hmx
      have HI := Lib.hid (l03Term_c b (off + k * 2) t.1 A' n' c' B t.2 w hc0 hc1 hin.2 hin.1 (by omega))
      cases hv : ovB t with
      | true =>
        have HS := Lib.hid (allV_step ha.out ht hv)
        have HV : Hid (ovB (t.1, t.2) = true) := hv
        rw [HV.out] at HI
        clear hin ht hv hmx hc0 hc1
        go_wp2_with fail
        refine HI.out.mono ?_
        rintro e w1 ⟨rfl, rfl⟩
        go_wp2_with fail
        go_round
        case rel => exact ⟨k + 1, by omega, by go_num, HS⟩
        case measure => simp [intOf]; omega
      | false =>
        have HN := Lib.hid (allV_no (most := most) ht hv)
        have HV : Hid (ovB (t.1, t.2) = false) := hv
        rw [HV.out] at HI
        clear hin ht hv hmx hc0 hc1
        go_wp2_with fail
        refine HI.out.mono ?_
        rintro e w1 ⟨rfl, rfl⟩
        go_wp2_with fail
        go_ret
        exact ⟨ret_bool HN.out.symm, rfl⟩
    · have HY := Lib.hid (allV_yes (most := most) ha.out (by have := hlen.out; omega))
      go_wp2_with fail
      go_ret
      exact ⟨ret_bool (by rw [HY.out, hlen.out]), rfl⟩

set_option maxRecDepth 100000 in
set_option maxHeartbeats 1000000 in
theorem isOverV_c (c0 : Int) (A : Option Addr) (n c B : Nat) (zs : List Int) (w : World) (h : InL w B A n zs) (hB : B ≤ w.heap.size) (hn : n ≤ 1048576) :
    Calls Tryz.prog 106 #[.agg #[.int .i64 c0, .slice A n c]] w fun e w' => e = .returned (.bool (ovB (c0, zs))) ∧ Below w.heap.size w w' := by
  have hb0 := bnew w (.cells #[.int .i64 c0, .slice A n c] 81)
  have HI := Lib.hid (implValid_c c0 A n c B zs (w.alloc (.cells #[.int .i64 c0, .slice A n c] 81)) (h.next hb0 hB).2 (by simp; omega) h.1 hn)
  have p1 : (w.alloc (.cells #[.int .i64 c0, .slice A n c] 81)).cell? ⟨w.heap.size, 1, none⟩ = some (.slice A n c) := by simp
  have hz' := Lib.hid h.1
  clear h
  cases hv : tmB (c0, zs) with
  | true =>
    have HV := Lib.hid (ovB_is hv)
    rw [hv] at HI
    clear hv
    by_cases h4 : n ≤ 4
    · have HT : Hid (ovB (c0, zs) = true) := HV.out.trans (decide_eq_true (by show zs.length ≤ 4; have := hz'.out; omega))
      go_enter Tryz.func106, Tryz.ntmps106
      go_wp2_with fail
      generalize w.alloc (.cells #[.int .i64 c0, .slice A n c] 81) = W at hb0 p1 HI ⊢
      refine HI.out.mono ?_
      rintro e w1 ⟨rfl, hb1⟩
      have q1 := cell_next p1 hb1
      go_wp2_with fail
      go_ret
      exact ⟨ret_bool (by rw [HT.out]; exact decide_eq_true (by omega)), bon hb0 hb1⟩
    · have HT : Hid (ovB (c0, zs) = false) := HV.out.trans (decide_eq_false (by show ¬ zs.length ≤ 4; have := hz'.out; omega))
      go_enter Tryz.func106, Tryz.ntmps106
      go_wp2_with fail
      generalize w.alloc (.cells #[.int .i64 c0, .slice A n c] 81) = W at hb0 p1 HI ⊢
      refine HI.out.mono ?_
      rintro e w1 ⟨rfl, hb1⟩
      have q1 := cell_next p1 hb1
      go_wp2_with fail
      go_ret
      exact ⟨ret_bool (by rw [HT.out]; exact decide_eq_false (by omega)), bon hb0 hb1⟩
  | false =>
    have HT := Lib.hid (ovB_no hv)
    rw [hv] at HI
    clear hv
    go_enter Tryz.func106, Tryz.ntmps106
    go_wp2_with fail
    generalize w.alloc (.cells #[.int .i64 c0, .slice A n c] 81) = W at hb0 p1 HI ⊢
    refine HI.out.mono ?_
    rintro e w1 ⟨rfl, hb1⟩
    go_wp2_with fail
    go_ret
    exact ⟨ret_bool HT.out.symm, bon hb0 hb1⟩

set_option maxRecDepth 100000 in
set_option maxHeartbeats 1000000 in
theorem areOverV_c (A : Option Addr) (n c B : Nat) (ts : List (Int × List Int)) (most : Nat) (w : World) (h : InTS w B A n ts) (hB : B ≤ w.heap.size) (he : totT ts ≤ 1048576) (hm : most ≤ 1000) :
    Calls Tryz.prog 83 #[.slice A n c, .int .i64 (most : Int)] w fun e w' => e = .returned (.bool (allV most ts)) ∧ Below w.heap.size w w' := by
  have hlen := Lib.hid h.1
  by_cases hbig : most < n
  · have HN : Hid (allV most ts = false) := by show _ = _; unfold allV; rw [decide_eq_false (p := ts.length ≤ most) (by have := hlen.out; omega)]; simp
    go_enter Tryz.func83, Tryz.ntmps83
    go_wp2_with fail
    go_ret
    exact ⟨ret_bool HN.out.symm, Below.refl _ _⟩
  · go_enter Tryz.func83, Tryz.ntmps83
    go_wp2_with fail
    go_loopw [6, 13] (fun _ i wr => ∃ k : Nat, k ≤ n ∧ i = .int .i64 k ∧ Hid (∀ u ∈ ts.take k, ovB u = true) ∧ Below w.heap.size w wr) (fun _ i _ => n - (intOf i).toNat)
    case atStart => exact ⟨0, Nat.zero_le _, rfl, fun u hu => by simp at hu, Below.refl _ _⟩
    case round =>
      obtain ⟨k, hk, rfl, ha, hbel⟩ := hrel
      have hsz := hbel.size
      by_cases hlt : k < n
      · obtain ⟨b, off, A', n', c', t, rfl, hb, ht, hc0, hc1, hin⟩ := (h.next hbel hB).at_ hlt
        have hmx := totT_mem (List.mem_of_getElem? ht)
        rw [hin.1] at hmx
        have HI := Lib.hid (fun (o : Obj) => isOverV_c t.1 A' n' c' B t.2 (wr.alloc o) (hin.next (bnew wr o) (by omega)) (Nat.le_trans (by omega) (bnew wr o).size) (by omega))
        cases hv : ovB t with
        | true =>
          have HS := Lib.hid (allV_step ha.out ht hv)
          have HV : Hid (ovB (t.1, t.2) = true) := hv
          rw [HV.out] at HI
          clear hin ht hv hmx
          go_wp2_with fail
          refine (HI.out _).mono ?_
          rintro e w1 ⟨rfl, hb1⟩
          go_wp2_with fail
          go_roundw
          case rel => exact ⟨k + 1, by omega, by go_num, HS, bon (bon hbel (bnew _ _)) hb1⟩
          case measure => simp [intOf]; omega
        | false =>
          have HN := Lib.hid (allV_no (most := most) ht hv)
          have HV : Hid (ovB (t.1, t.2) = false) := hv
          rw [HV.out] at HI
          clear hin ht hv hmx
          go_wp2_with fail
          refine (HI.out _).mono ?_
          rintro e w1 ⟨rfl, hb1⟩
          go_wp2_with fail
          go_ret
          exact ⟨ret_bool HN.out.symm, bon (bon hbel (bnew _ _)) hb1⟩
      · have HY : Hid (allV most ts = true) := by
          show _ = _
          rw [allV_yes (most := most) ha.out (by have := hlen.out; omega)]; exact decide_eq_true (by have := hlen.out; omega)
        go_wp2_with fail
        go_ret
        exact ⟨ret_bool HY.out.symm, hbel⟩

/-! What a term is in a state. -/
/-- Values that are not too great. -/
def BigV (vs : List Int) : Prop := ∀ k, -1000000000 ≤ vs.getD k 0 ∧ vs.getD k 0 ≤ 1000000000
theorem bigV_of {vs : List Int} (h : ∀ z ∈ vs, -1000000000 ≤ z ∧ z ≤ 1000000000) : BigV vs := fun k => by
  by_cases h0 : vs.getD k 0 = 0
  · omega
  · exact h _ (getD_mem h0)
theorem evTo_boundV {t : Int × List Int} {vs : List Int} (ht : tmB t = true) (hv : BigV vs) : ∀ k : Nat, -(1000000 + (k : Int) * 1000000000000000) ≤ evTo t vs k ∧ evTo t vs k ≤ 1000000 + (k : Int) * 1000000000000000
  | 0 => by have := (tmB_parts ht).2.1; simp only [evTo]; omega
  | k + 1 => by
    have ih := evTo_boundV ht hv k
    have a := getD_small ht k
    have b := hv k
    have p := prod9_le a.1 a.2 b.1 b.2
    simp only [evTo]
    omega

set_option maxRecDepth 100000 in
set_option maxHeartbeats 1000000 in
theorem l03Eval_c (B b o : Nat) (t : Int × List Int) (bs os : Nat) (A : Option Addr) (n c : Nat) (vs : List Int) (w : World) (ht : PtrT w B b o t) (hs : w.cell? ⟨bs, os, none⟩ = some (.slice A n c)) (h : InL w B A n vs) (hv : tmB t = true) (hl : t.2.length ≤ n) (hvs : BigV vs) :
    Calls Tryz.prog 72 #[.pointer (some ⟨b, o, none⟩), .pointer (some ⟨bs, os, none⟩)] w fun e w' => e = .returned (.int .i64 (evTo t vs t.2.length)) ∧ ∃ d, w' = w.drewN d := by
  obtain ⟨D, m, d, h0, h1, h2, h3⟩ := ht
  have hm := Lib.hid h3.1
  have hm10 : m ≤ 10 := by have := (tmB_parts hv).1; have := h3.1; omega
  have hmn : m ≤ n := by have := h3.1; omega
  have HB := Lib.hid (evTo_boundV hv hvs)
  have HA := Lib.hid (fun k => getD_small hv k)
  have HV := Lib.hid (fun k => hvs k)
  have hl' := Lib.hid h.1
  clear hl
  go_enter Tryz.func72, Tryz.ntmps72
  go_wp2_with fail
  go_loopw [5, 6] (fun v i wr => ∃ k d0 : Nat, k ≤ m ∧ i = .int .i64 k ∧ v = .int .i64 (evTo t vs k) ∧ wr = w.drewN d0) (fun _ i _ => m - (intOf i).toNat)
  case atStart => exact ⟨0, 0, Nat.zero_le _, rfl, rfl, rfl⟩
  case round =>
    obtain ⟨k, d0, hk, rfl, rfl, rfl⟩ := hrel
    by_cases hlt : k < m
    · obtain ⟨b1, off1, x, rfl, hb1, hx, hc⟩ := h3.2.int_at (k := k) (by have := hm.out; omega)
      obtain ⟨b2, off2, y, rfl, hb2, hy, hd⟩ := h.2.int_at (k := k) (by have := hl'.out; omega)
      have gx : t.2.getD k 0 = x := by rw [List.getD_eq_getElem?_getD, hx]; rfl
      have gy : vs.getD k 0 = y := by rw [List.getD_eq_getElem?_getD, hy]; rfl
      have HS : Hid (evTo t vs (k + 1) = evTo t vs k + x * y) := by show _ = _; rw [evTo, gx, gy]
      have bx := HA.out k
      have bv := HV.out k
      rw [gx] at bx
      rw [gy] at bv
      have pp := prod9_le bx.1 bx.2 bv.1 bv.2
      have eb := HB.out k
      have k10 : (k : Int) < 10 := by omega
      have kn : (k : Int) < n := by omega
      obtain ⟨pp1, pp2⟩ := pp
      obtain ⟨eb1, eb2⟩ := eb
      clear gx gy hx hy
      generalize evTo t vs k = E at HS eb1 eb2 ⊢
      go_wp2_with fail
      go_quiet (fail)
      go_wp2_with fail
      go_roundw
      case rel => exact ⟨k + 1, _, by omega, by go_num, by rw [HS.out], rfl⟩
      case measure => simp [intOf]; omega
    · have e : k = m := by omega
      subst e
      go_wp2_with fail
      go_ret
      exact ⟨by rw [hm.out]; rfl, _, rfl⟩

set_option maxRecDepth 100000 in
set_option maxHeartbeats 1000000 in
theorem numberOfV_c (B : Nat) (c0 : Int) (D : Option Addr) (m d : Nat) (zs : List Int) (A : Option Addr) (n c : Nat) (vs : List Int) (w : World) (h3 : InL w B D m zs) (h : InL w B A n vs) (hB : B ≤ w.heap.size) (hv : tmB (c0, zs) = true) (hl : m ≤ n) (hvs : BigV vs) :
    Calls Tryz.prog 211 #[.agg #[.int .i64 c0, .slice D m d], .slice A n c] w fun e w' => e = .returned (.int .i64 (evTo (c0, zs) vs zs.length)) ∧ Below w.heap.size w w' := by
  have hm := Lib.hid h3.1
  have hm10 : m ≤ 10 := by have := (tmB_parts hv).1; have := h3.1; simp at *; omega
  have HB := Lib.hid (evTo_boundV hv hvs)
  have HA := Lib.hid (fun k => getD_small hv k)
  have HV := Lib.hid (fun k => hvs k)
  have hl' := Lib.hid h.1
  have hb0 := bnew w (.cells #[.int .i64 c0, .slice D m d] 81)
  have r3 := h3.next hb0 hB
  have r1 := h.next hb0 hB
  clear h h3
  go_enter Tryz.func211, Tryz.ntmps211
  go_wp2_with fail
  generalize w.alloc (.cells #[.int .i64 c0, .slice D m d] 81) = W at hb0 r3 r1 ⊢
  go_loop [5, 6, 7, 13] (fun v _ _ i => ∃ k : Nat, k ≤ m ∧ i = .int .i64 k ∧ v = .int .i64 (evTo (c0, zs) vs k)) (fun _ _ _ i => m - (intOf i).toNat)
  case atStart => exact ⟨0, Nat.zero_le _, rfl, rfl⟩
  case round =>
    obtain ⟨k, hk, rfl, rfl⟩ := hrel
    by_cases hlt : k < m
    · obtain ⟨b1, off1, x, rfl, hb1, hx, hc⟩ := r3.2.int_at (k := k) (by have := hm.out; omega)
      obtain ⟨b2, off2, y, rfl, hb2, hy, hd⟩ := r1.2.int_at (k := k) (by have := hl'.out; omega)
      have gx : zs.getD k 0 = x := by rw [List.getD_eq_getElem?_getD, hx]; rfl
      have gy : vs.getD k 0 = y := by rw [List.getD_eq_getElem?_getD, hy]; rfl
      have HS : Hid (evTo (c0, zs) vs (k + 1) = evTo (c0, zs) vs k + x * y) := by show _ = _; rw [evTo, gx, gy]
      have bx := HA.out k
      have bv := HV.out k
      rw [gx] at bx
      rw [gy] at bv
      have pp := prod9_le bx.1 bx.2 bv.1 bv.2
      have eb := HB.out k
      have k10 : (k : Int) < 10 := by omega
      have kn : (k : Int) < n := by omega
      obtain ⟨pp1, pp2⟩ := pp
      obtain ⟨eb1, eb2⟩ := eb
      clear gx gy hx hy
      generalize evTo (c0, zs) vs k = E at HS eb1 eb2 ⊢
      go_wp2_with fail
      go_round
      case rel => exact ⟨k + 1, by omega, by go_num, by rw [HS.out]⟩
      case measure => simp [intOf]; omega
    · have e : k = m := by omega
      subst e
      go_wp2_with fail
      go_ret
      exact ⟨by rw [hm.out]; rfl, hb0⟩

def numS (vs : List Int) (t : Int × List Int) : Int := evTo t vs t.2.length
theorem hs_step {ts : List (Int × List Int)} {vs : List Int} {k : Nat} {t : Int × List Int} (h : ∀ u ∈ ts.take k, 0 ≤ numS vs u) (ht : ts[k]? = some t) (hv : 0 ≤ numS vs t) : ∀ u ∈ ts.take (k + 1), 0 ≤ numS vs u := by
  intro u hu
  rw [List.take_add_one, ht, List.mem_append] at hu
  rcases hu with hu | hu
  · exact h u hu
  · obtain rfl := by simpa using hu
    exact hv
def hsB (ts : List (Int × List Int)) (vs : List Int) : Bool := decide (∀ t ∈ ts, 0 ≤ numS vs t)
theorem hsB_no {ts : List (Int × List Int)} {t : Int × List Int} {vs : List Int} {k : Nat} (ht : ts[k]? = some t) (h : numS vs t < 0) : hsB ts vs = false :=
  decide_eq_false (fun a => by have := a t (List.mem_of_getElem? ht); omega)
theorem hsB_yes {ts : List (Int × List Int)} {vs : List Int} {k : Nat} (h : ∀ u ∈ ts.take k, 0 ≤ numS vs u) (hk : ts.length ≤ k) : hsB ts vs = true := by
  rw [take_all hk] at h
  exact decide_eq_true h
def holdR (ts : List (Int × List Int)) (zs ys : List Int) : Bool × Bool := if allV 14 ts = true ∧ stB zs ys = true then (hsB ts zs, true) else (false, false)
theorem holdR_yes {ts : List (Int × List Int)} {zs ys : List Int} (h : allV 14 ts = true) (k : stB zs ys = true) : holdR ts zs ys = (hsB ts zs, true) := if_pos ⟨h, k⟩
theorem holdR_no {ts : List (Int × List Int)} {zs ys : List Int} (h : allV 14 ts = false) : holdR ts zs ys = (false, false) := if_neg (by rw [h]; simp)
theorem holdR_no2 {ts : List (Int × List Int)} {zs ys : List Int} (h : stB zs ys = false) : holdR ts zs ys = (false, false) := if_neg (by rw [h]; simp)
theorem stB_parts {zs ys : List Int} (h : stB zs ys = true) : zs.length = 4 ∧ BigV zs := by
  unfold stB at h
  rw [Bool.and_eq_true] at h
  have := numsB_parts h.1
  exact ⟨this.1, bigV_of this.2⟩
theorem ret_two {a b : Bool × Bool} (h : a = b) : Ending.returned (.tuple #[.bool a.1, .bool a.2]) = .returned (.tuple #[.bool b.1, .bool b.2]) := by rw [h]

end Go.Proofs.YtajmbnimdngjhaaGreatDoor
