/-
  Whether values are a counterexample: the model's and the program's. Conditions: at most 2^20 terms, coefficients and values.
-/
import Derived.Test.YtapndnkcmmpdjaaSeqK
import Derived.Test.YtapndnkcmmpdjaaEval
namespace Go.Proofs.Ytapndnkcmmpdjaa
open Go.RowKit

def numV (vs : List Int) (t : Int × List Int) : Int := evTo t vs t.2.length
def refB (ts : List (Int × List Int)) (g : Int × List Int) (vs : List Int) : Bool := decide (∀ t ∈ ts, 0 ≤ numV vs t) && decide (numV vs g < 0)
theorem refB_no {ts : List (Int × List Int)} {g t : Int × List Int} {vs : List Int} {k : Nat} (ht : ts[k]? = some t) (h : numV vs t < 0) : refB ts g vs = false := by
  unfold refB
  rw [decide_eq_false (fun a => by have := a t (List.mem_of_getElem? ht); omega)]; rfl
theorem refB_yes {ts : List (Int × List Int)} {g : Int × List Int} {vs : List Int} {k : Nat} (h : ∀ u ∈ ts.take k, 0 ≤ numV vs u) (hk : ts.length ≤ k) : refB ts g vs = decide (numV vs g < 0) := by
  rw [take_all hk] at h
  unfold refB; rw [decide_eq_true h]; rfl
theorem ref_step {ts : List (Int × List Int)} {vs : List Int} {k : Nat} {t : Int × List Int} (h : ∀ u ∈ ts.take k, 0 ≤ numV vs u) (ht : ts[k]? = some t) (hv : 0 ≤ numV vs t) : ∀ u ∈ ts.take (k + 1), 0 ≤ numV vs u := by
  intro u hu
  rw [List.take_add_one, ht, List.mem_append] at hu
  rcases hu with hu | hu
  · exact h u hu
  · obtain rfl := by simpa using hu
    exact hv
theorem seqB_parts {ts : List (Int × List Int)} {g : Int × List Int} (h : seqB ts g = true) : (∀ t ∈ ts, tmB t = true) ∧ tmB g = true := by
  unfold seqB at h
  rw [Bool.and_eq_true] at h
  exact ⟨(allT_parts h.1).1, h.2⟩

set_option maxRecDepth 100000 in
set_option maxHeartbeats 1000000 in
theorem l02Counter_c (b o : Nat) (c0 : Int) (A : Option Addr) (n c B : Nat) (ts : List (Int × List Int)) (D : Option Addr) (m d : Nat) (zs : List Int) (A1 : Option Addr) (n1 cp1 : Nat) (vs : List Int) (w : World)
    (hlb : b < B) (q0 : w.cell? ⟨b, o, none⟩ = some (.slice A n c)) (q1 : w.cell? ⟨b, o + 1, none⟩ = some (.int .i64 c0)) (q2 : w.cell? ⟨b, o + 1 + 1, none⟩ = some (.slice D m d)) (h : InTS w B A n ts) (hl : InL w B D m zs) (h1 : InL w B A1 n1 vs) (hB : B ≤ w.heap.size) (hn : n ≤ 1048576)
    (hts : ∀ t ∈ ts, tmB t = true) (hg : tmB (c0, zs) = true) (hvs : valsB vs = true) :
    Calls Try.prog 67 #[.pointer (some ⟨b, o, none⟩), .slice A1 n1 cp1] w fun e w' => e = .returned (.bool (refB ts (c0, zs) vs)) ∧ Below w.heap.size w w' := by
  have hlen := Lib.hid h.1
  have HT := Lib.hid hts
  have HI := Lib.hid h
  have H1 := Lib.hid h1
  have HL := Lib.hid hl
  clear hts h h1 hl
  go_enter Try.func67, Try.ntmps67
  go_wp2_with fail
  go_loopw [5] (fun i wr => ∃ k : Nat, k ≤ n ∧ i = .int .i64 k ∧ Hid (∀ u ∈ ts.take k, 0 ≤ numV vs u) ∧ Below w.heap.size w wr) (fun i _ => n - (intOf i).toNat)
  case atStart => exact ⟨0, Nat.zero_le _, rfl, fun u hu => by simp at hu, Below.refl _ _⟩
  case round =>
    obtain ⟨k, hk, rfl, ha, hbel⟩ := hrel
    have hsz := hbel.size
    replace q0 := cell_next q0 hbel
    replace q1 := cell_next q1 hbel
    replace q2 := cell_next q2 hbel
    by_cases hlt : k < n
    · obtain ⟨b', off, A', n', c', t, rfl, hb', ht, hc0, hc1, hin⟩ := (HI.out.next hbel hB).at_ hlt
      have HE := Lib.hid (l02Eval_c B b' (off + k * 2) t A1 n1 cp1 vs wr ⟨A', n', c', hb', hc0, hc1, hin⟩ (H1.out.next hbel hB) (HT.out t (List.mem_of_getElem? ht)) hvs)
      have hEB := evTo_bound (HT.out t (List.mem_of_getElem? ht)) hvs t.2.length
      have hS := Lib.hid (fun h => ref_step (vs := vs) ha.out ht h)
      have hN := Lib.hid (fun h => refB_no (g := (c0, zs)) (vs := vs) ht h)
      clear hin ht hc0 hc1
      unfold numV at hS hN
      generalize evTo t vs t.2.length = v at HE hEB hS hN
      by_cases hv : v < 0
      · have HN := Lib.hid (hN.out hv)
        clear hS hN
        go_wp2_with fail
        refine HE.out.mono ?_
        rintro e w1 ⟨rfl, d1, rfl⟩
        go_wp2_with fail
        go_ret
        exact ⟨ret_bool HN.out.symm, below_drewN hbel d1⟩
      · have HS := Lib.hid (hS.out (by omega))
        clear hS hN
        go_wp2_with fail
        refine HE.out.mono ?_
        rintro e w1 ⟨rfl, d1, rfl⟩
        go_wp2_with fail
        go_roundw
        case rel => exact ⟨k + 1, by omega, by go_num, HS.out, below_drewN hbel d1⟩
        case measure => simp [intOf]; omega
    · have HY := Lib.hid (refB_yes (g := (c0, zs)) (vs := vs) ha.out (by have := hlen.out; omega))
      have HE := Lib.hid (l02Eval_c B b (o + 1) (c0, zs) A1 n1 cp1 vs wr ⟨D, m, d, hlb, q1, q2, HL.out.next hbel hB⟩ (H1.out.next hbel hB) hg hvs)
      unfold numV at HY
      generalize evTo (c0, zs) vs (c0, zs).2.length = v at HE HY
      go_wp2_with fail
      refine HE.out.mono ?_
      rintro e w1 ⟨rfl, d1, rfl⟩
      go_wp2_with fail
      go_ret
      exact ⟨ret_bool HY.out.symm, below_drewN hbel d1⟩

set_option maxRecDepth 100000 in
set_option maxHeartbeats 1000000 in
theorem refutes_c (c0 : Int) (A : Option Addr) (n c B : Nat) (ts : List (Int × List Int)) (D : Option Addr) (m d : Nat) (zs : List Int) (A1 : Option Addr) (n1 cp1 : Nat) (vs : List Int) (w : World)
    (h : InTS w B A n ts) (hl : InL w B D m zs) (h1 : InL w B A1 n1 vs) (hB : B ≤ w.heap.size) (hn : n ≤ 1048576)
    (hts : ∀ t ∈ ts, tmB t = true) (hg : tmB (c0, zs) = true) (hvs : valsB vs = true) :
    Calls Try.prog 69 #[.agg #[.slice A n c, .int .i64 c0, .slice D m d], .slice A1 n1 cp1] w fun e w' => e = .returned (.bool (refB ts (c0, zs) vs)) ∧ Below w.heap.size w w' := by
  have hb0 := bnew w (.cells #[.slice A n c, .int .i64 c0, .slice D m d] 43)
  have hP : BlkIs (w.alloc (.cells #[.slice A n c, .int .i64 c0, .slice D m d] 43)) w.heap.size 43 #[.slice A n c, .int .i64 c0, .slice D m d] := blk_new _ _ _ _ rfl
  have hlen := Lib.hid h.1
  have HT := Lib.hid hts
  have HI := Lib.hid (h.next hb0 hB)
  have H1 := Lib.hid (h1.next hb0 hB)
  have HL := Lib.hid (hl.next hb0 hB)
  clear hts h h1 hl
  go_enter Try.func69, Try.ntmps69
  go_wp2_with fail
  generalize w.alloc (.cells #[.slice A n c, .int .i64 c0, .slice D m d] 43) = W at hb0 hP HI H1 HL ⊢
  have hs0 := hb0.size
  go_loopw [6, 10] (fun _ i wr => ∃ k : Nat, k ≤ n ∧ i = .int .i64 k ∧ Hid (∀ u ∈ ts.take k, 0 ≤ numV vs u) ∧ Below W.heap.size W wr) (fun _ i _ => n - (intOf i).toNat)
  case atStart => exact ⟨0, Nat.zero_le _, rfl, fun u hu => by simp at hu, Below.refl _ _⟩
  case round =>
    obtain ⟨k, hk, rfl, ha, hbel⟩ := hrel
    have hsz := hbel.size
    by_cases hlt : k < n
    · obtain ⟨b', off, A', n', c', t, rfl, hb', ht, hc0, hc1, hin⟩ := (HI.out.next hbel (by omega)).at_ hlt
      have HE := Lib.hid (fun (o : Obj) => numberOf_c B t.1 A' n' c' t.2 A1 n1 cp1 vs (wr.alloc o) (hin.next (bnew wr o) (by omega)) ((H1.out.next hbel (by omega)).next (bnew wr o) (by omega)) (Nat.le_trans (by omega) (bnew wr o).size) (HT.out t (List.mem_of_getElem? ht)) hvs)
      have hEB := evTo_bound (HT.out t (List.mem_of_getElem? ht)) hvs t.2.length
      have hS := Lib.hid (fun h => ref_step (vs := vs) ha.out ht h)
      have hN := Lib.hid (fun h => refB_no (g := (c0, zs)) (vs := vs) ht h)
      clear hin ht
      unfold numV at hS hN
      have et : evTo (t.1, t.2) vs t.2.length = evTo t vs t.2.length := rfl
      rw [et] at HE
      clear et
      generalize evTo t vs t.2.length = v at HE hEB hS hN
      by_cases hv : v < 0
      · have HN := Lib.hid (hN.out hv)
        clear hS hN
        go_wp2_with fail
        refine (HE.out _).mono ?_
        rintro e w1 ⟨rfl, hb1⟩
        go_wp2_with fail
        go_ret
        exact ⟨ret_bool HN.out.symm, bon hb0 (bon (bon hbel (bnew _ _)) hb1)⟩
      · have HS := Lib.hid (hS.out (by omega))
        clear hS hN
        go_wp2_with fail
        refine (HE.out _).mono ?_
        rintro e w1 ⟨rfl, hb1⟩
        go_wp2_with fail
        go_roundw
        case rel => exact ⟨k + 1, by omega, by go_num, HS.out, bon (bon hbel (bnew _ _)) hb1⟩
        case measure => simp [intOf]; omega
    · have HY := Lib.hid (refB_yes (g := (c0, zs)) (vs := vs) ha.out (by have := hlen.out; omega))
      have p1 := (hP.next hbel).cell 1
      have p2 := (hP.next hbel).cell 2
      simp at p1 p2
      have HE := Lib.hid (numberOf_c B c0 D m d zs A1 n1 cp1 vs wr (HL.out.next hbel (by omega)) (H1.out.next hbel (by omega)) (by omega) hg hvs)
      unfold numV at HY
      have et : evTo (c0, zs) vs (c0, zs).2.length = evTo (c0, zs) vs zs.length := rfl
      rw [et] at HY
      clear et
      generalize evTo (c0, zs) vs zs.length = v at HE HY
      go_wp2_with fail
      refine HE.out.mono ?_
      rintro e w1 ⟨rfl, hb1⟩
      go_wp2_with fail
      go_ret
      exact ⟨ret_bool HY.out.symm, bon hb0 (bon hbel hb1)⟩

def cntB (ts : List (Int × List Int)) (g : Int × List Int) (vs : List Int) : Bool := seqB ts g && (valsB vs && refB ts g vs)
theorem cntB_no {ts : List (Int × List Int)} {g : Int × List Int} {vs : List Int} (h : seqB ts g = false) : cntB ts g vs = false := by unfold cntB; rw [h]; rfl
theorem cntB_no2 {ts : List (Int × List Int)} {g : Int × List Int} {vs : List Int} (h : valsB vs = false) : cntB ts g vs = false := by unfold cntB; rw [h]; simp
theorem cntB_is {ts : List (Int × List Int)} {g : Int × List Int} {vs : List Int} (h : seqB ts g = true) (k : valsB vs = true) : cntB ts g vs = refB ts g vs := by unfold cntB; rw [h, k]; simp

end Go.Proofs.Ytapndnkcmmpdjaa
