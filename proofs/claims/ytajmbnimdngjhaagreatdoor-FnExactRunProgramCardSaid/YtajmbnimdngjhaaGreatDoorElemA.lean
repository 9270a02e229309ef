/-
  Elements of bodies, and whole bodies: what the model's l03Stmt and l03Body give. Conditions: at most 2^20 elements, terms and coefficients. (printed by gen_elem.py)
-/
import Derived.Test.YtajmbnimdngjhaaGreatDoorElem
namespace Go.Proofs.YtajmbnimdngjhaaGreatDoor
set_option linter.unusedVariables false
open Go.RowKit

set_option maxRecDepth 100000 in
set_option maxHeartbeats 1000000 in
theorem l03Stmt_out (b o : Nat) (k : Int) (w : World) (q0 : w.cell? ⟨b, o, none⟩ = some (.int .i64 k)) (hk : ¬ (0 ≤ k ∧ k ≤ 8)) :
    Calls Tryz.prog 98 #[.pointer (some ⟨b, o, none⟩)] w fun e' w' => e' = .returned (.bool false) ∧ w = w' := by
  have HK0 := l00In_k k 0 8 w
  rw [decide_eq_false hk] at HK0
  have HK := Lib.hid HK0
  have r1 : (k == 2) = false := by rw [beq_eq_false_iff_ne]; omega
  have r2 : (k == 3) = false := by rw [beq_eq_false_iff_ne]; omega
  have r3 : (k == 4) = false := by rw [beq_eq_false_iff_ne]; omega
  have r4 : (k == 6) = false := by rw [beq_eq_false_iff_ne]; omega
  have r5 : (k == 7) = false := by rw [beq_eq_false_iff_ne]; omega
  have r6 : (k == 8) = false := by rw [beq_eq_false_iff_ne]; omega
  clear HK0 hk
  go_enter Tryz.func98, Tryz.ntmps98
  go_wp2_with fail
  refine HK.out.mono ?_
  rintro e9 w9 ⟨rfl, rfl⟩
  go_wp2_with fail
  go_ret
  exact ⟨rfl, rfl⟩
theorem l03Stmt_c (x : S8) (b o : Nat) (B : Nat) (w : World) (h : StAt w B b o x) (hx : x.tot ≤ 1048576) :
    Calls Tryz.prog 98 #[.pointer (some ⟨b, o, none⟩)] w fun e' w' => e' = .returned (.bool (stmtB x)) ∧ w = w' := by
  obtain ⟨As, ns, cs, Ai, ni, ci, Af, nf, cf, q0, q1, q2, q3, q4, q5, q6, q7, k1, k2, k3⟩ := h
  unfold S8.tot at hx
  rw [k1.1, k2.1, k3.1] at hx
  obtain ⟨k, v, e, ⟨sc, zs⟩, ⟨ic, zi⟩, ts⟩ := x
  have hx : ns + (ni + (nf + totT ts)) ≤ 1048576 := hx
  by_cases hk : 0 ≤ k ∧ k ≤ 8
  · obtain ⟨h0, h8⟩ := hk
    obtain ⟨m, rfl⟩ := Int.eq_ofNat_of_zero_le h0
    have hm : m ≤ 8 := by omega
    match m, hm with
    | 0, _ => exact l03Stmt_0 b o v e sc As ns cs zs ic Ai ni ci zi Af nf cf ts B w q0 q1 q2 q3 q4 q5 q6 q7 k1 k2 k3 (by omega) (by omega) (by omega) (by omega)
    | 1, _ => exact l03Stmt_1 b o v e sc As ns cs zs ic Ai ni ci zi Af nf cf ts B w q0 q1 q2 q3 q4 q5 q6 q7 k1 k2 k3 (by omega) (by omega) (by omega) (by omega)
    | 2, _ => exact l03Stmt_2 b o v e sc As ns cs zs ic Ai ni ci zi Af nf cf ts B w q0 q1 q2 q3 q4 q5 q6 q7 k1 k2 k3 (by omega) (by omega) (by omega) (by omega)
    | 3, _ => exact l03Stmt_3 b o v e sc As ns cs zs ic Ai ni ci zi Af nf cf ts B w q0 q1 q2 q3 q4 q5 q6 q7 k1 k2 k3 (by omega) (by omega) (by omega) (by omega)
    | 4, _ => exact l03Stmt_4 b o v e sc As ns cs zs ic Ai ni ci zi Af nf cf ts B w q0 q1 q2 q3 q4 q5 q6 q7 k1 k2 k3 (by omega) (by omega) (by omega) (by omega)
    | 5, _ => exact l03Stmt_5 b o v e sc As ns cs zs ic Ai ni ci zi Af nf cf ts B w q0 q1 q2 q3 q4 q5 q6 q7 k1 k2 k3 (by omega) (by omega) (by omega) (by omega)
    | 6, _ => exact l03Stmt_6 b o v e sc As ns cs zs ic Ai ni ci zi Af nf cf ts B w q0 q1 q2 q3 q4 q5 q6 q7 k1 k2 k3 (by omega) (by omega) (by omega) (by omega)
    | 7, _ => exact l03Stmt_7 b o v e sc As ns cs zs ic Ai ni ci zi Af nf cf ts B w q0 q1 q2 q3 q4 q5 q6 q7 k1 k2 k3 (by omega) (by omega) (by omega) (by omega)
    | 8, _ => exact l03Stmt_8 b o v e sc As ns cs zs ic Ai ni ci zi Af nf cf ts B w q0 q1 q2 q3 q4 q5 q6 q7 k1 k2 k3 (by omega) (by omega) (by omega) (by omega)
  · have HV : stmtB ⟨k, v, e, (sc, zs), (ic, zi), ts⟩ = false := by
      unfold stmtB
      rw [decide_eq_false (p := 0 ≤ k ∧ k ≤ 8) hk]; simp
    rw [HV]
    exact l03Stmt_out b o k w q0 hk

/-- A list of elements is one statement. -/
def bodyB (xs : List S8) : Bool := decide (1 ≤ xs.length ∧ xs.length ≤ 30) && xs.all stmtB && decide (endL 1 xs 0 = (xs.length : Int))
theorem bodyB_size {xs : List S8} (h : ¬ (1 ≤ xs.length ∧ xs.length ≤ 30)) : bodyB xs = false := by unfold bodyB; rw [decide_eq_false h]; rfl
theorem bodyB_elem {xs : List S8} {k : Nat} {x : S8} (hx : xs[k]? = some x) (h : stmtB x = false) : bodyB xs = false := by
  have : xs.all stmtB = false := by
    rw [List.all_eq_false]
    exact ⟨x, List.mem_of_getElem? hx, by rw [h]; simp⟩
  unfold bodyB; rw [this]; simp
theorem bodyB_all {xs : List S8} (h : 1 ≤ xs.length ∧ xs.length ≤ 30) (ha : ∀ x ∈ xs, stmtB x = true) : bodyB xs = decide (endL 1 xs 0 = (xs.length : Int)) := by
  unfold bodyB; rw [decide_eq_true h, List.all_eq_true.2 ha]; rfl
theorem sall_succ {p : S8 → Prop} {ts : List S8} {k : Nat} {t : S8} (h : ∀ u ∈ ts.take k, p u) (ht : ts[k]? = some t) (hp : p t) : ∀ u ∈ ts.take (k + 1), p u := by
  intro u hu
  rw [List.take_add_one, ht] at hu
  rcases List.mem_append.1 hu with h1 | h1
  · exact h u h1
  · obtain rfl : u = t := by simpa using h1
    exact hp
theorem InST.len {w : World} {B : Nat} {A : Option Addr} {n : Nat} {xs : List S8} (h : InST w B A n xs) : xs.length = n := h.1

set_option maxRecDepth 100000 in
set_option maxHeartbeats 2000000 in
theorem l03Body_c (A : Option Addr) (n c B : Nat) (xs : List S8) (w : World) (h : InST w B A n xs) (hn : n ≤ 1048576) (he : totS xs ≤ 1048576) :
    Calls Tryz.prog 66 #[.slice A n c] w fun e w' => e = .returned (.bool (bodyB xs)) ∧ w = w' := by
  have hlen := Lib.hid h.1
  have HL0 := l00In_k (n : Int) 1 30 w
  by_cases hb : 1 ≤ n ∧ n ≤ 30
  · rw [decide_eq_true (by omega)] at HL0
    have HL := Lib.hid HL0
    have HE := Lib.hid (l03End_c A n c B xs 0 w h hn (Nat.zero_le _))
    clear HL0
    go_enter Tryz.func66, Tryz.ntmps66
    go_wp2_with fail
    refine HL.out.mono ?_
    rintro e9 w9 ⟨rfl, rfl⟩
    go_wp2_with fail
    clear HL
    go_loop [3] (fun i => ∃ j : Nat, j ≤ n ∧ i = .int .i64 j ∧ Hid (∀ t ∈ xs.take j, stmtB t = true)) (fun i => n - (intOf i).toNat)
    case atStart => exact ⟨0, Nat.zero_le _, rfl, by intro z hz; simp at hz⟩
    case round =>
      obtain ⟨j, hj, rfl, ha⟩ := hrel
      by_cases hlt : j < n
      · obtain ⟨b, off, x, rfl, hbb, hx, hst⟩ := h.at_ hlt
        have hmx := totS_mem (List.mem_of_getElem? hx)
        have HI := Lib.hid (l03Stmt_c x b (off + j * 8) B w hst (by omega))
        have HX := Lib.hid hx
        clear hst hx
        cases hv : stmtB x with
        | false =>
          have HV := Lib.hid (bodyB_elem HX.out hv)
          rw [hv] at HI
          clear hv HE
          go_wp2_with fail
          refine HI.out.mono ?_
          rintro e9 w9 ⟨rfl, rfl⟩
          go_wp2_with fail
          go_ret
          exact ⟨ret_bool HV.out.symm, rfl⟩
        | true =>
          have HV := Lib.hid (sall_succ ha.out HX.out hv)
          rw [hv] at HI
          clear hv HE
          go_wp2_with fail
          refine HI.out.mono ?_
          rintro e9 w9 ⟨rfl, rfl⟩
          go_wp2_with fail
          go_round
          case rel => exact ⟨j + 1, by omega, by go_num, HV⟩
          case measure => simp [intOf]; omega
      · have hall : ∀ t ∈ xs, stmtB t = true := by
          intro t ht
          exact ha.out t (by rw [List.take_of_length_le (by rw [hlen.out]; omega)]; exact ht)
        have HV := Lib.hid (bodyB_all (by rw [hlen.out]; exact hb) hall)
        rw [hlen.out] at HV
        clear hall
        have HE' : Hid (Calls Tryz.prog 70 #[.slice A n c, .int .i64 0] w fun e w' => e = .returned (.int .i64 (endL 1 xs 0)) ∧ w = w') := HE
        generalize endL 1 xs 0 = E at HV HE'
        clear HE
        go_wp2_with fail
        refine HE'.out.mono ?_
        rintro e9 w9 ⟨rfl, rfl⟩
        go_wp2_with fail
        go_ret
        exact ⟨ret_bool (by rw [HV.out, Bool.eq_iff_iff]; simp), rfl⟩
  · have HV := Lib.hid (bodyB_size (xs := xs) (by rw [hlen.out]; exact hb))
    rw [decide_eq_false (by omega)] at HL0
    have HL := Lib.hid HL0
    clear HL0
    go_enter Tryz.func66, Tryz.ntmps66
    go_wp2_with fail
    refine HL.out.mono ?_
    rintro e9 w9 ⟨rfl, rfl⟩
    go_wp2_with fail
    go_ret
    exact ⟨ret_bool HV.out.symm, rfl⟩
end Go.Proofs.YtajmbnimdngjhaaGreatDoor
