/-
  Multipliers that show that facts do not all hold: what the model and the program say. Conditions: at most 20 valid terms, multipliers from 0 to 1000000.
-/
import Derived.Test.YtapndnkcmmpdjaaCombS
namespace Go.Proofs.Ytapndnkcmmpdjaa
set_option linter.unusedVariables false
open Go.RowKit

/-- Whether the sum of facts with multipliers has no symbols and a negative number. -/
def closesB (ts : List (Int × List Int)) (ks : List Int) : Bool := decide (ks.length = ts.length) && (decide (∀ k : Nat, k < 10 → combTo ts ks ts.length (k : Nat) = 0) && decide (combTo ts ks ts.length (-1) < 0))
theorem closesB_len {ts : List (Int × List Int)} {ks : List Int} (h : ¬ ks.length = ts.length) : closesB ts ks = false := by unfold closesB; rw [decide_eq_false h]; rfl
theorem closesB_sym {ts : List (Int × List Int)} {ks : List Int} {k : Nat} (hk : k < 10) (h : combTo ts ks ts.length (k : Nat) ≠ 0) : closesB ts ks = false := by
  unfold closesB
  rw [decide_eq_false (p := ∀ k : Nat, k < 10 → combTo ts ks ts.length (k : Nat) = 0) (fun h' => h (h' k hk))]; simp
theorem closesB_is {ts : List (Int × List Int)} {ks : List Int} (hl : ks.length = ts.length) (h : ∀ k : Nat, k < 10 → combTo ts ks ts.length (k : Nat) = 0) : closesB ts ks = decide (combTo ts ks ts.length (-1) < 0) := by
  unfold closesB; rw [decide_eq_true hl, decide_eq_true h]; simp
theorem trim_zero {f : Int → Int} : trimN (ten f) = 0 ↔ ∀ k : Nat, k < 10 → f (k : Nat) = 0 := by
  constructor
  · intro h k hk
    have h1 := (trimN_is (ten f)).2.1 k (by omega) (by rw [ten_len]; exact hk)
    rw [ten_at f hk] at h1
    exact Option.some.inj h1
  · intro h
    exact (ten_trim (n := 0) (by omega) (fun k _ hk => h k hk) (.inl rfl)).symm

set_option maxRecDepth 100000 in
set_option maxHeartbeats 4000000 in
theorem l05Closes_c (A : Option Addr) (n cp B : Nat) (ts : List (Int × List Int)) (D : Option Addr) (m cq : Nat) (ks : List Int) (w : World) (h : InTS w B A n ts) (hk : InL w B D m ks) (hB : B ≤ w.heap.size)
    (hv : ∀ t ∈ ts, tmB t = true) (h14 : n ≤ 20) (hb : btw 0 1000000 ks = true) :
    Calls Try.prog 51 #[.slice A n cp, .slice D m cq] w fun e w' => e = .returned (.bool (closesB ts ks)) ∧ Below w.heap.size w w' := by
  have HI := Lib.hid h
  have HK := Lib.hid hk
  have hlt := Lib.hid h.1
  have hlk := Lib.hid hk.1
  by_cases hmn : m = n
  · subst hmn
    have HT := Lib.hid hv
    have HB := Lib.hid (fun k h1 h2 => comb_bound hv hb k h1 h2)
    have HKB := Lib.hid (btw_in hb)
    clear h hk hv hb
    have hmk : ∀ w : World, Sem.run Try.prog (Instr.makeSlice 24 (.int .i64 10) (.int .i64 10)) w = .ok (.slice (some ⟨w.heap.size, 0, none⟩) 10 10) (w.alloc (.cells (madeCells #[.int .i64 0] 10) 2)) := run_make_row' (P := Try.prog) 24 2 (.int .i64 0) 8 Try.underlying24 info64 rfl .i64 .i64 10 (by omega) (by omega)
    go_enter Try.func51, Try.ntmps51
    go_wp2_with fail
    have hz0 : ((ten (combTo ts ks 0)).map ic) = List.replicate 10 (.int .i64 0) := by rfl
    have hown0 : (w.alloc (.cells (madeCells #[.int .i64 0] 10) 2)).ownsRow w.heap.size 2 1 (.slice (some ⟨w.heap.size, 0, none⟩) 10 10) 10 ((ten (combTo ts ks 0)).map ic) := by
      rw [hz0]
      exact own_zeros (heap_alloc_new w _) (Nat.le_refl _) (by omega)
    have hbw := bnew w (.cells (madeCells #[.int .i64 0] 10) 2)
    clear hmk hz0
    go_loopw [5, 7, 8] (fun c i _ wr => ∃ k : Nat, k ≤ m ∧ i = .int .i64 k ∧ c = .int .i64 (combTo ts ks k (-1)) ∧ wr.ownsRow w.heap.size 2 1 (.slice (some ⟨w.heap.size, 0, none⟩) 10 10) 10 ((ten (combTo ts ks k)).map ic) ∧ Below w.heap.size w wr) (fun _ i _ _ => m - (intOf i).toNat)
    case atStart => exact ⟨0, Nat.zero_le _, rfl, rfl, hown0, hbw⟩
    case round =>
      clear hown0 hbw
      obtain ⟨k, hk, rfl, rfl, hrow, hbel⟩ := hrel
      have hsz := hbel.size
      by_cases hlt1 : k < m
      · obtain ⟨wo, rfl⟩ : ∃ wo : World, wo = wr := ⟨_, rfl⟩
        obtain ⟨b', off, A', n', c', t, rfl, hb', ht, hc0, hc1, hin⟩ := HI.out.at_ hlt1
        obtain ⟨b2, off2, x, rfl, hb2, hx, hd⟩ := HK.out.2.int_at (k := k) (by have := hlk.out; omega)
        have e1 : ts.getD k (0, []) = t := by rw [List.getD_eq_getElem?_getD, ht]; rfl
        have e2 : ks.getD k 0 = x := by rw [List.getD_eq_getElem?_getD, hx]; rfl
        have HS : Hid (combTo ts ks (k + 1) = addT (combTo ts ks k) x t) := by show _ = _; rw [combTo, e1, e2]
        have HS1 : Hid (combTo ts ks (k + 1) (-1) = combTo ts ks k (-1) + x * t.1) := by show _ = _; rw [HS.out]; unfold addT; rw [tf_const]
        have hvt := HT.out t (List.mem_of_getElem? ht)
        have hxb := HKB.out x (List.mem_of_getElem? hx)
        have hbd := HB.out k (by have := hlt.out; omega) (by have := hlk.out; omega)
        have HPB := Lib.hid (fun q j => part_bound (f := combTo ts ks k) (x := x) (t := t) (M := (k : Int) * 1000000000000) (by omega) hbd (by omega) (by omega) hvt q j)
        have HGS := Lib.hid (fun q => getD_small hvt q)
        have hl10 : n' ≤ 10 := by have := (tmB_parts hvt).1; have := hin.1; omega
        have ht1 := (tmB_parts hvt).2.1
        obtain ⟨ht1, ht2⟩ := ht1
        obtain ⟨hx1, hx2⟩ := hxb
        have hp1 := prod_le (a := x) (b := t.1) (by omega) (by omega) ht1 ht2
        obtain ⟨hp1, hp2⟩ := hp1
        have hb1 := hbd (-1)
        obtain ⟨hbd1, hbd2⟩ := hb1
        have hin0 := Lib.hid hin.1
        have hin2 := Lib.hid hin.2
        have C0 := Lib.hid hc0
        have C1 := Lib.hid hc1
        have CD := Lib.hid hd
        have g0 := cell_next hc0 hbel
        have g1 := cell_next hc1 hbel
        have gd := cell_next hd hbel
        have hrow0 : wo.ownsRow w.heap.size 2 1 (.slice (some ⟨w.heap.size, 0, none⟩) 10 10) 10 ((ten (part (combTo ts ks k) x t 0)).map ic) := by rw [part_0]; exact hrow
        clear hin ht hx hc0 hc1 hd e1 e2 hbd hvt hrow
        generalize combTo ts ks k (-1) = E at HS1 hbd1 hbd2 ⊢
        go_wp2_with fail
        go_quiet (fail)
        go_wp2_with fail
        go_loopw [8] (fun j wr => ∃ q : Nat, q ≤ n' ∧ j = .int .i64 q ∧ wr.ownsRow w.heap.size 2 1 (.slice (some ⟨w.heap.size, 0, none⟩) 10 10) 10 ((ten (part (combTo ts ks k) x t q)).map ic) ∧ Below w.heap.size w wr) (fun j _ => n' - (intOf j).toNat)
        case atStart => exact ⟨0, Nat.zero_le _, rfl, by first | exact hrow0 | exact (show World.ownsRow wo _ _ _ _ _ _ from hrow0), by first | exact hbel | exact below_drewN hbel _⟩
        case round =>
          clear hrow0 hbel g0 g1 gd
          obtain ⟨q, hq, rfl, hrow, hbel⟩ := hrel
          have hsz2 := hbel.size
          have g0 := cell_next C0.out hbel
          have g1 := cell_next C1.out hbel
          by_cases hlt2 : q < n'
          · have gd := cell_next CD.out hbel
            obtain ⟨b3, off3, y, rfl, hb3, hy, hcy⟩ := hin2.out.int_at (k := q) (by have := hin0.out; omega)
            have gy := cell_next hcy hbel
            have ey : t.2.getD q 0 = y := by rw [List.getD_eq_getElem?_getD, hy]; rfl
            have hyb := HGS.out q
            rw [ey] at hyb
            have pp := prod_le (a := x) (b := y) (by omega) (by omega) hyb.1 hyb.2
            obtain ⟨pp1, pp2⟩ := pp
            have pb := HPB.out q q
            obtain ⟨pb1, pb2⟩ := pb
            have hcl := hrow.cellAt q (by omega)
            rw [List.getElem?_map, ten_at _ (by omega)] at hcl
            have hcl2 : wr.cell? ⟨w.heap.size, q, none⟩ = some (.int .i64 (part (combTo ts ks k) x t q q)) := hcl
            have hfk := hrow.frozenAt q
            have hst := hrow.stored q (.int .i64 (part (combTo ts ks k) x t q q + x * t.2.getD q 0))
            rw [ten_set (by omega), ey] at hst
            have HST := Lib.hid hst
            clear hst hrow hy hcy ey hcl hyb
            have hq1 : q < 10 := by omega
            have hq2 : (q : Int) < 10 := by omega
            generalize part (combTo ts ks k) x t q q = F at hcl2 pb1 pb2 HST ⊢
            go_wp2_with fail
            go_still_tail 19, (by kernel_rfl)
            change wpList _ _ _ _ _ wr.drew
            go_wp2_with fail
            go_roundw
            case rel =>
              refine ⟨q + 1, by omega, by go_num, HST.out.1, ?_⟩
              exact hbel.drew.setCell (p := ⟨w.heap.size, q, none⟩) (by exact Nat.le_refl _) _
            case measure => simp [intOf]; omega
          · have e : q = n' := by omega
            subst e
            have hend : ten (part (combTo ts ks k) x t q) = ten (combTo ts ks (k + 1)) := by rw [HS.out, ← part_end, hin0.out]
            rw [hend] at hrow
            clear hend
            go_wp2_with fail
            go_roundw
            case rel => exact ⟨k + 1, by omega, by go_num, by rw [HS1.out], hrow, hbel⟩
            case measure => simp [intOf]; omega
      · have e : k = m := by omega
        subst e
        have ek : ts.length = k := hlt.out
        have hkl : ks.length = ts.length := by rw [ek]; exact hlk.out
        clear HI HK
        go_wp2_with fail
        go_loop [9] (fun i => ∃ q : Nat, q ≤ 10 ∧ i = .int .i64 q ∧ Hid (∀ j : Nat, j < q → combTo ts ks ts.length (j : Nat) = 0)) (fun i => 10 - (intOf i).toNat)
        case atStart => exact ⟨0, by omega, rfl, fun j hj => by omega⟩
        case round =>
          obtain ⟨q, hq, rfl, hz⟩ := hrel
          by_cases hq1 : q < 10
          · have hq2 : (q : Int) < 10 := by omega
            have hcl := hrow.cellAt q (by omega)
            rw [List.getElem?_map, ten_at _ hq1] at hcl
            have hcl2 : wr.cell? ⟨w.heap.size, q, none⟩ = some (.int .i64 (combTo ts ks k (q : Nat))) := hcl
            clear hcl
            by_cases h0 : combTo ts ks k (q : Nat) = 0
            · have HZ : Hid (∀ j : Nat, j < q + 1 → combTo ts ks ts.length (j : Nat) = 0) := fun j hj => by
                by_cases e : j < q
                · exact hz.out j e
                · have : j = q := by omega
                  subst this
                  rw [ek]; exact h0
              rw [h0] at hcl2
              clear h0
              go_wp2_with fail
              go_round
              case rel => exact ⟨q + 1, by omega, by go_num, HZ⟩
              case measure => simp [intOf]; omega
            · have HF := Lib.hid (closesB_sym (ts := ts) (ks := ks) hq1 (by rw [ek]; exact h0))
              have r1 : (combTo ts ks k (q : Nat) == 0) = false := by simpa using h0
              have r2 : (combTo ts ks k (q : Nat) != 0) = true := by simpa using h0
              generalize combTo ts ks k (q : Nat) = V at hcl2 r1 r2
              clear h0
              go_wp2_with fail
              go_ret
              exact ⟨ret_bool HF.out.symm, hbel⟩
          · have e : q = 10 := by omega
            subst e
            have HF := Lib.hid (closesB_is (ts := ts) (ks := ks) hkl hz.out)
            rw [ek] at HF
            generalize combTo ts ks k (-1) = E at HF ⊢
            go_wp2_with fail
            go_ret
            exact ⟨ret_bool HF.out.symm, hbel⟩
  · have q1 : ((n : Int) == (m : Int)) = false := by simp; omega
    have q2 : ((n : Int) != (m : Int)) = true := by simp; omega
    have HF := Lib.hid (closesB_len (ts := ts) (ks := ks) (by rw [hlt.out, hlk.out]; exact hmn))
    clear h hk hv hb
    go_enter Try.func51, Try.ntmps51
    go_wp2_with fail
    go_ret
    exact ⟨ret_bool HF.out.symm, Below.refl _ _⟩

set_option maxRecDepth 100000 in
set_option maxHeartbeats 4000000 in
theorem sumOf_c (A : Option Addr) (n cp B : Nat) (ts : List (Int × List Int)) (D : Option Addr) (cq : Nat) (ks : List Int) (w : World) (h : InTS w B A n ts) (hk : InL w B D n ks) (hB : B ≤ w.heap.size) (hv : ∀ t ∈ ts, tmB t = true) (h20 : n ≤ 20) (hb : btw 0 1000000 ks = true) :
    Calls Try.prog 70 #[.slice A n cp, .slice D n cq] w fun e w' => e = .returned (.map (some w.heap.size)) ∧ MapF w' w.heap.size (11 * n) (combTo ts ks n) ∧ Below w.heap.size w w' := by
  have hmm := @run_makeMap Try.prog
  have HI1 := Lib.hid h
  have HK1 := Lib.hid hk
  have hlt := Lib.hid h.1
  have hlk := Lib.hid hk.1
  have HT := Lib.hid hv
  have HB := Lib.hid (fun k h1 h2 => comb_bound hv hb k h1 h2)
  have HKB := Lib.hid (btw_in hb)
  clear h hk hv hb
  go_enter Try.func70, Try.ntmps70
  go_wp2_with fail
  have hmp0 := mapF_made w
  have hb2 := bnew w (.map #[] 0)
  obtain ⟨W1, hW1⟩ : ∃ x, x = w.alloc (.map #[] 0) := ⟨_, rfl⟩
  rw [← hW1] at hmp0 hb2 ⊢
  clear hW1
  go_loopw [6, 7, 11] (fun _ _ i wr => ∃ k : Nat, k ≤ n ∧ i = .int .i64 k ∧ MapF wr w.heap.size (11 * k) (combTo ts ks k) ∧ Below w.heap.size w wr) (fun _ _ i _ => n - (intOf i).toNat)
  case atStart => exact ⟨0, Nat.zero_le _, rfl, hmp0, hb2⟩
  case round =>
    clear hmp0 hb2
    obtain ⟨k, hk, rfl, hmp, hbel⟩ := hrel
    have hsz := hbel.size
    have hml := hmp.lt
    by_cases hlt1 : k < n
    · obtain ⟨b', off, A', n', c', t, rfl, hb', ht, hc0, hc1, hin⟩ := (HI1.out.next hbel hB).at_ hlt1
      obtain ⟨b2, off2, x, rfl, hb2, hx, hd⟩ := (HK1.out.next hbel hB).2.int_at (k := k) (by have := hlk.out; omega)
      have e1 : ts.getD k (0, []) = t := by rw [List.getD_eq_getElem?_getD, ht]; rfl
      have e2 : ks.getD k 0 = x := by rw [List.getD_eq_getElem?_getD, hx]; rfl
      have HS : Hid (combTo ts ks (k + 1) = addT (combTo ts ks k) x t) := by show _ = _; rw [combTo, e1, e2]
      have hxb := HKB.out x (List.mem_of_getElem? hx)
      obtain ⟨hx1, hx2⟩ := hxb
      have hvt : tmB (t.1, t.2) = true := HT.out t (List.mem_of_getElem? ht)
      have hbo := bnew wr (.cells #[.int .i64 t.1, .slice A' n' c'] 41)
      have o0 : (wr.alloc (.cells #[.int .i64 t.1, .slice A' n' c'] 41)).cell? ⟨wr.heap.size, 0, none⟩ = some (.int .i64 t.1) := cell_new wr _ _ 0 _ rfl
      have o1 : (wr.alloc (.cells #[.int .i64 t.1, .slice A' n' c'] 41)).cell? ⟨wr.heap.size, 1, none⟩ = some (.slice A' n' c') := cell_new wr _ _ 1 _ rfl
      have hd2 := cell_next hd hbo
      have hin2 := hin.next hbo (by omega)
      have hmp2 := hmp.next hbo hml
      have HADD := Lib.hid (addTimes_c w.heap.size (11 * k) (combTo ts ks k) t.1 A' n' c' B t.2 x ((k : Int) * 1000000000000) (wr.alloc (.cells #[.int .i64 t.1, .slice A' n' c'] 41)).drew hmp2.drew hin2.drew (Nat.le_trans (by omega) hbo.size) hvt (by omega) (by omega) (by omega) (by omega) (by omega) (HB.out k (by have := hlt.out; omega) (by have := hlk.out; omega)))
      clear hin ht hx hmp e1 e2 hin2 hmp2
      go_wp2_with fail
      generalize wr.alloc (.cells #[.int .i64 t.1, .slice A' n' c'] 41) = W2 at hbo o0 o1 hd2 HADD ⊢
      go_still_tail 6, (by kernel_rfl)
      change wpList _ _ _ _ _ W2.drew
      go_wp2_with fail
      refine HADD.out.mono ?_
      rintro e w3 ⟨rfl, hmp3, hg3⟩
      have hb3 : Below w.heap.size w w3 := (bon hbel hbo).drew.trans (only_below hg3 (Nat.le_refl _) (Nat.le_trans hsz hbo.size))
      have hmp4 := hmp3.mono (n' := 11 * (k + 1)) (by omega)
      go_wp2_with fail
      go_roundw
      case rel => exact ⟨k + 1, by omega, by go_num, by rw [HS.out]; exact hmp4, hb3⟩
      case measure => simp [intOf]; omega
    · have e : k = n := by omega
      subst e
      go_wp2_with fail
      go_ret
      exact ⟨rfl, hmp, hbel⟩

set_option maxRecDepth 100000 in
set_option maxHeartbeats 4000000 in
theorem closes_c (A : Option Addr) (n cp B : Nat) (ts : List (Int × List Int)) (D : Option Addr) (m cq : Nat) (ks : List Int) (w : World) (h : InTS w B A n ts) (hk : InL w B D m ks) (hB : B ≤ w.heap.size) (hv : ∀ t ∈ ts, tmB t = true) (h20 : n ≤ 20) (hb : btw 0 1000000 ks = true) :
    Calls Try.prog 52 #[.slice A n cp, .slice D m cq] w fun e w' => e = .returned (.bool (closesB ts ks)) ∧ Below w.heap.size w w' := by
  have hlt := Lib.hid h.1
  have hlk := Lib.hid hk.1
  by_cases hmn : m = n
  · subst hmn
    have HS := Lib.hid (sumOf_c A m cp B ts D cq ks w h hk hB hv h20 hb)
    have ek : ts.length = m := hlt.out
    have hkl : ks.length = ts.length := by rw [ek]; exact hlk.out
    have HKL := Lib.hid hkl
    have HEK := Lib.hid ek
    clear h hk hv hb hkl ek
    go_enter Try.func52, Try.ntmps52
    go_wp2_with fail
    refine HS.out.mono ?_
    rintro e w1 ⟨rfl, hmp, hb1⟩
    go_wp2_with fail
    refine (width_c w.heap.size _ _ w1 hmp).mono ?_
    rintro e w2 ⟨rfl, hb2⟩
    have hlk2 := look_of (hmp.next hb2 hmp.lt) (-1) (by omega)
    clear HS
    cases hz : trimN (ten (combTo ts ks m)) with
    | zero =>
      have HF := Lib.hid (closesB_is (ts := ts) (ks := ks) HKL.out (by rw [HEK.out]; exact trim_zero.1 hz))
      rw [HEK.out] at HF
      clear hz hmp
      generalize combTo ts ks m (-1) = E at HF hlk2
      go_wp2_with fail
      go_ret
      exact ⟨ret_bool HF.out.symm, bon hb1 hb2⟩
    | succ q =>
      have HF : Hid (closesB ts ks = false) := by
        have hne : ¬ ∀ k : Nat, k < 10 → combTo ts ks m (k : Nat) = 0 := fun h' => by rw [trim_zero.2 h'] at hz; cases hz
        show closesB ts ks = false
        unfold closesB
        rw [HEK.out, decide_eq_false hne]; simp
      have r1 : (((q + 1 : Nat) : Int) == 0) = false := by simp; omega
      clear hz hmp hlk2
      go_wp2_with fail
      go_ret
      exact ⟨ret_bool HF.out.symm, bon hb1 hb2⟩
  · have q1 : ((m : Int) == (n : Int)) = false := by simp; omega
    have q2 : ((m : Int) != (n : Int)) = true := by simp; omega
    have HF := Lib.hid (closesB_len (ts := ts) (ks := ks) (by rw [hlt.out, hlk.out]; exact hmn))
    clear h hk hv hb
    go_enter Try.func52, Try.ntmps52
    go_wp2_with fail
    go_ret
    exact ⟨ret_bool HF.out.symm, Below.refl _ _⟩
end Go.Proofs.Ytapndnkcmmpdjaa
