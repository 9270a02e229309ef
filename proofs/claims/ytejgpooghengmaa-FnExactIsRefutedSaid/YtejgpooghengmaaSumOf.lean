/-
  The program's sum of multiples of terms, as a map. Conditions: valid terms, at most 20, multipliers up to 10^6.
-/
import Derived.Test.YtejgpooghengmaaComb
import Derived.Deep.RegionHeld3
import Derived.StillTailTactics
namespace Go.Proofs.Ytejgpooghengmaa
open Go.RowKit

set_option maxRecDepth 100000 in
set_option maxHeartbeats 4000000 in
theorem sumOf_c (A : Option Addr) (n cp B : Nat) (ts : List (Int × List Int)) (D : Option Addr) (cq : Nat) (ks : List Int) (w : World) (h : InTS w B A n ts) (hk : InL w B D n ks) (hB : B ≤ w.heap.size) (hv : ∀ t ∈ ts, tmB t = true) (h20 : n ≤ 20) (hb : btw 0 1000000 ks = true) :
    Calls Try.prog 24 #[.slice A n cp, .slice D n cq] w fun e w' => e = .returned (.map (some w.heap.size)) ∧ MapF w' w.heap.size (11 * n) (combTo ts ks n) ∧ Below w.heap.size w w' := by
  have hmm := @run_makeMap Try.prog
  have HI1 := Lib.hid h
  have HK1 := Lib.hid hk
  have hlt := Lib.hid h.1
  have hlk := Lib.hid hk.1
  have HT := Lib.hid hv
  have HB := Lib.hid (fun k h1 h2 => comb_bound hv hb k h1 h2)
  have HKB := Lib.hid (btw_in hb)
  clear h hk hv hb
  go_enter Try.func24, Try.ntmps24
  go_wp2_with fail
  have hmp0 := mapF_made w
  have hb2 := bnew w (.map #[] 0)
  obtain ⟨W1, hW1⟩ : ∃ x, x = w.alloc (.map #[] 0) := ⟨_, rfl⟩
  rw [← hW1] at hmp0 hb2 ⊢
  clear hW1
  go_loopw [6, 7, 11] (fun _ _ i wr => ∃ k : Nat, k ≤ n ∧ i = .int .i64 k ∧ MapF wr w.heap.size (11 * k) (combTo ts ks k) ∧ Below w.heap.size w wr) (fun _ _ i _ => n - (intOf i).toNat)
  case atStart => exact ⟨0, Nat.zero_le _, rfl, hmp0, hb2⟩
  case round =>
    clear hmp0 hb2
    obtain ⟨k, hk, rfl, hmp, hbel⟩ := hrel
    have hsz := hbel.size
    have hml := hmp.lt
    by_cases hlt1 : k < n
    · obtain ⟨b', off, A', n', c', t, rfl, hb', ht, hc0, hc1, hin⟩ := (HI1.out.next hbel hB).at_ hlt1
      obtain ⟨b2, off2, x, rfl, hb2, hx, hd⟩ := (HK1.out.next hbel hB).2.int_at (k := k) (by have := hlk.out; omega)
      have e1 : ts.getD k (0, []) = t := by rw [List.getD_eq_getElem?_getD, ht]; rfl
      have e2 : ks.getD k 0 = x := by rw [List.getD_eq_getElem?_getD, hx]; rfl
      have HS : Hid (combTo ts ks (k + 1) = addT (combTo ts ks k) x t) := by show _ = _; rw [combTo, e1, e2]
      have hxb := HKB.out x (List.mem_of_getElem? hx)
      obtain ⟨hx1, hx2⟩ := hxb
      have hvt : tmB (t.1, t.2) = true := HT.out t (List.mem_of_getElem? ht)
      have hbo := bnew wr (.cells #[.int .i64 t.1, .slice A' n' c'] 37)
      have o0 : (wr.alloc (.cells #[.int .i64 t.1, .slice A' n' c'] 37)).cell? ⟨wr.heap.size, 0, none⟩ = some (.int .i64 t.1) := cell_new wr _ _ 0 _ rfl
      have o1 : (wr.alloc (.cells #[.int .i64 t.1, .slice A' n' c'] 37)).cell? ⟨wr.heap.size, 1, none⟩ = some (.slice A' n' c') := cell_new wr _ _ 1 _ rfl
      have hd2 := cell_next hd hbo
      have hin2 := hin.next hbo (by omega)
      have hmp2 := hmp.next hbo hml
      have HADD := Lib.hid (addTimes_c w.heap.size (11 * k) (combTo ts ks k) t.1 A' n' c' B t.2 x ((k : Int) * 1000000000000) (wr.alloc (.cells #[.int .i64 t.1, .slice A' n' c'] 37)).drew hmp2.drew hin2.drew (Nat.le_trans (by omega) hbo.size) hvt (by omega) (by omega) (by omega) (by omega) (by omega) (HB.out k (by have := hlt.out; omega) (by have := hlk.out; omega)))
      clear hin ht hx hmp e1 e2 hin2 hmp2
      go_wp2_with fail
      generalize wr.alloc (.cells #[.int .i64 t.1, .slice A' n' c'] 37) = W2 at hbo o0 o1 hd2 HADD ⊢
      go_still_tail 6, (by kernel_rfl)
      change wpList _ _ _ _ _ W2.drew
      go_wp2_with fail
      refine HADD.out.mono ?_
      rintro e w3 ⟨rfl, hmp3, hg3⟩
      have hb3 : Below w.heap.size w w3 := (bon hbel hbo).drew.trans (only_below hg3 (Nat.le_refl _) (Nat.le_trans hsz hbo.size))
      have hmp4 := hmp3.mono (n' := 11 * (k + 1)) (by omega)
      go_wp2_with fail
      go_roundw
      case rel => exact ⟨k + 1, by omega, by go_num, by rw [HS.out]; exact hmp4, hb3⟩
      case measure => simp [intOf]; omega
    · have e : k = n := by omega
      subst e
      go_wp2_with fail
      go_ret
      exact ⟨rfl, hmp, hbel⟩
end Go.Proofs.Ytejgpooghengmaa
