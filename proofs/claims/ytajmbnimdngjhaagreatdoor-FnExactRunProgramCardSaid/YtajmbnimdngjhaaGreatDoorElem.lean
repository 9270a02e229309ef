/-
  Elements of bodies: what the model's l03Stmt gives. Conditions: at most 2^20 terms and coefficients. (printed by gen_elem.py)
-/
import Derived.Test.YtajmbnimdngjhaaGreatDoorBody
namespace Go.Proofs.YtajmbnimdngjhaaGreatDoor
set_option linter.unusedVariables false
open Go.RowKit

def zeroB (t : Int × List Int) : Bool := decide (t.1 = 0 ∧ t.2.length = 0)
/-- The fields of an element are valid. -/
def stmtB (x : S8) : Bool := decide (0 ≤ x.k ∧ x.k ≤ 8) && overB x.s && overB x.i && oversB 6 x.f && (decide (x.k = 2 ∨ x.k = 4 ∨ x.k = 6 ∨ x.k = 7 ∨ x.k = 8) || zeroB x.s) && (decide (x.k = 3 ∨ x.k = 4) || zeroB x.i) &&
  (decide (x.k = 8) || decide (x.f.length = 0)) && (if x.k = 2 ∨ x.k = 3 then decide (0 ≤ x.v ∧ x.v ≤ 3) else (x.v == 0)) && (if x.k = 5 then decide (0 ≤ x.e ∧ x.e ≤ 3) else (x.e == 0))
set_option maxRecDepth 100000 in
theorem l05Zero_c (b o : Nat) (c0 : Int) (A : Option Addr) (n c B : Nat) (zs : List Int) (w : World) (hc0 : w.cell? ⟨b, o, none⟩ = some (.int .i64 c0)) (hc1 : w.cell? ⟨b, o + 1, none⟩ = some (.slice A n c)) (h : InL w B A n zs) :
    Calls Tryz.prog 131 #[.pointer (some ⟨b, o, none⟩)] w fun e w' => e = .returned (.bool (zeroB (c0, zs))) ∧ w = w' := by
  have hlen := h.1
  have HV : Hid (zeroB (c0, zs) = decide (c0 = 0 ∧ n = 0)) := by show _ = _; unfold zeroB; rw [← hlen]
  clear h hlen
  by_cases z : c0 = 0
  · have r1 : (c0 == 0) = true := by simpa using z
    by_cases y : n = 0
    · have r2 : ((n : Int) == 0) = true := by simp; omega
      rw [HV.out, decide_eq_true ⟨z, y⟩]
      clear HV
      go_enter Tryz.func131, Tryz.ntmps131
      go_wp2_with fail
      go_ret
      exact ⟨rfl, rfl⟩
    · have r2 : ((n : Int) == 0) = false := by simp; omega
      rw [HV.out, decide_eq_false (fun a => y a.2)]
      clear HV
      go_enter Tryz.func131, Tryz.ntmps131
      go_wp2_with fail
      go_ret
      exact ⟨rfl, rfl⟩
  · have r1 : (c0 == 0) = false := by simpa using z
    rw [HV.out, decide_eq_false (fun a => z a.1)]
    clear HV
    go_enter Tryz.func131, Tryz.ntmps131
    go_wp2_with fail
    go_ret
    exact ⟨rfl, rfl⟩
theorem l00In_k (n a c : Int) (w : World) : Calls Tryz.prog 68 #[.int .i64 n, .int .i64 a, .int .i64 c] w fun e w' => e = .returned (.bool (decide (a ≤ n ∧ n ≤ c))) ∧ w = w' := by
  by_cases z : a ≤ n
  · by_cases y : n ≤ c
    · rw [decide_eq_true ⟨z, y⟩]
      go_enter Tryz.func68, Tryz.ntmps68
      go_wp2_with fail
      go_ret
      exact ⟨ret_bool (by first | (simp; done) | (simp [z, y]; done)), rfl⟩
    · rw [decide_eq_false (fun h => y h.2)]
      go_enter Tryz.func68, Tryz.ntmps68
      go_wp2_with fail
      go_ret
      exact ⟨ret_bool (by first | (simp; done) | (simp [y]; done)), rfl⟩
  · rw [decide_eq_false (fun h => z h.1)]
    go_enter Tryz.func68, Tryz.ntmps68
    go_wp2_with fail
    go_ret
    exact ⟨ret_bool (by first | (simp; done) | (simp [z]; done)), rfl⟩

set_option maxRecDepth 100000 in
set_option maxHeartbeats 8000000 in
theorem l03Stmt_0 (b o : Nat) (v e : Int) (sc : Int) (As : Option Addr) (ns cs : Nat) (zs : List Int) (ic : Int) (Ai : Option Addr) (ni ci : Nat) (zi : List Int) (Af : Option Addr) (nf cf : Nat) (ts : List (Int × List Int)) (B : Nat) (w : World)
    (q0 : w.cell? ⟨b, o, none⟩ = some (.int .i64 0)) (q1 : w.cell? ⟨b, o + 1, none⟩ = some (.int .i64 v)) (q2 : w.cell? ⟨b, o + 2, none⟩ = some (.int .i64 e)) (q3 : w.cell? ⟨b, o + 3, none⟩ = some (.int .i64 sc)) (q4 : w.cell? ⟨b, o + 4, none⟩ = some (.slice As ns cs))
    (q5 : w.cell? ⟨b, o + 5, none⟩ = some (.int .i64 ic)) (q6 : w.cell? ⟨b, o + 6, none⟩ = some (.slice Ai ni ci)) (q7 : w.cell? ⟨b, o + 7, none⟩ = some (.slice Af nf cf))
    (h1 : InL w B As ns zs) (h2 : InL w B Ai ni zi) (h3 : InTS w B Af nf ts) (hn1 : ns ≤ 1048576) (hn2 : ni ≤ 1048576) (hn3 : nf ≤ 1048576) (hn4 : totT ts ≤ 1048576) :
    Calls Tryz.prog 98 #[.pointer (some ⟨b, o, none⟩)] w fun e' w' => e' = .returned (.bool (stmtB ⟨0, v, e, (sc, zs), (ic, zi), ts⟩)) ∧ w = w' := by
  have HK0 := l00In_k 0 0 8 w
  rw [decide_eq_true (by omega)] at HK0
  have HK := Lib.hid HK0
  obtain ⟨bs, HBS⟩ : ∃ x, Hid (overB (sc, zs) = x) := ⟨_, rfl⟩
  obtain ⟨bi, HBI⟩ : ∃ x, Hid (overB (ic, zi) = x) := ⟨_, rfl⟩
  obtain ⟨bf, HBF⟩ : ∃ x, Hid (oversB 6 ts = x) := ⟨_, rfl⟩
  obtain ⟨zb, HZB⟩ : ∃ x, Hid (zeroB (sc, zs) = x) := ⟨_, rfl⟩
  obtain ⟨yb, HYB⟩ : ∃ x, Hid (zeroB (ic, zi) = x) := ⟨_, rfl⟩
  have HS0 := l03Term_o b (o + 3) sc As ns cs B zs w q3 q4 h1 hn1
  have HI0 := l03Term_o b (o + 5) ic Ai ni ci B zi w q5 q6 h2 hn2
  have HF0 := l03Terms_c Af nf cf B 6 ts w h3 hn3 hn4 (by omega)
  have HZ0 := l05Zero_c b (o + 3) sc As ns cs B zs w q3 q4 h1
  have HY0 := l05Zero_c b (o + 5) ic Ai ni ci B zi w q5 q6 h2
  rw [HBS.out] at HS0
  rw [HBI.out] at HI0
  rw [HBF.out] at HF0
  rw [HZB.out] at HZ0
  rw [HYB.out] at HY0
  have HS := Lib.hid HS0
  have HI := Lib.hid HI0
  have HF := Lib.hid HF0
  have HZ := Lib.hid HZ0
  have HY := Lib.hid HY0
  obtain ⟨nb, HNB⟩ : ∃ x, Hid (decide (0 ≤ v ∧ v ≤ 3) = x) := ⟨_, rfl⟩
  have HN0 := l00In_k v 0 3 w
  rw [HNB.out] at HN0
  have HN := Lib.hid HN0
  have HE := Lib.hid (l00In_k e 0 3 w)
  have HV : Hid (stmtB ⟨0, v, e, (sc, zs), (ic, zi), ts⟩ = (bs && bi && bf && zb && yb && decide (nf = 0) && (v == 0) && (e == 0))) := by show _ = _; simp [stmtB, HBS.out, HBI.out, HBF.out, HZB.out, HYB.out, h3.1]
  rw [HV.out]
  clear h1 h2 h3 HK0 HS0 HI0 HF0 HZ0 HY0 HV HBS HBI HBF HZB HYB HNB HN0 hn1 hn2 hn3 hn4
  go_enter Tryz.func98, Tryz.ntmps98
  go_wp2_with fail
  refine HK.out.mono ?_
  rintro e9 w9 ⟨rfl, rfl⟩
  go_wp2_with fail
  refine HS.out.mono ?_
  rintro e9 w9 ⟨rfl, rfl⟩
  cases bs
  · go_wp2_with fail
    go_ret
    exact ⟨ret_bool (by simp), rfl⟩
  go_wp2_with fail
  refine HI.out.mono ?_
  rintro e9 w9 ⟨rfl, rfl⟩
  cases bi
  · go_wp2_with fail
    go_ret
    exact ⟨ret_bool (by simp), rfl⟩
  go_wp2_with fail
  refine HF.out.mono ?_
  rintro e9 w9 ⟨rfl, rfl⟩
  cases bf
  · go_wp2_with fail
    go_ret
    exact ⟨ret_bool (by simp), rfl⟩
  go_wp2_with fail
  refine HZ.out.mono ?_
  rintro e9 w9 ⟨rfl, rfl⟩
  cases zb
  · go_wp2_with fail
    go_ret
    exact ⟨ret_bool (by simp), rfl⟩
  go_wp2_with fail
  refine HY.out.mono ?_
  rintro e9 w9 ⟨rfl, rfl⟩
  cases yb
  · go_wp2_with fail
    go_ret
    exact ⟨ret_bool (by simp), rfl⟩
  by_cases z5 : nf = 0
  rotate_left
  · have r5 : (0 : Int) < (nf : Int) := by omega
    go_wp2_with fail
    go_ret
    exact ⟨ret_bool (by simp_all), rfl⟩
  have r5 : ¬ (0 : Int) < (nf : Int) := by omega
  go_wp2_with fail
  all_goals (go_ret; refine ⟨ret_bool ?_, rfl⟩; simp_all)

set_option maxRecDepth 100000 in
set_option maxHeartbeats 8000000 in
theorem l03Stmt_1 (b o : Nat) (v e : Int) (sc : Int) (As : Option Addr) (ns cs : Nat) (zs : List Int) (ic : Int) (Ai : Option Addr) (ni ci : Nat) (zi : List Int) (Af : Option Addr) (nf cf : Nat) (ts : List (Int × List Int)) (B : Nat) (w : World)
    (q0 : w.cell? ⟨b, o, none⟩ = some (.int .i64 1)) (q1 : w.cell? ⟨b, o + 1, none⟩ = some (.int .i64 v)) (q2 : w.cell? ⟨b, o + 2, none⟩ = some (.int .i64 e)) (q3 : w.cell? ⟨b, o + 3, none⟩ = some (.int .i64 sc)) (q4 : w.cell? ⟨b, o + 4, none⟩ = some (.slice As ns cs))
    (q5 : w.cell? ⟨b, o + 5, none⟩ = some (.int .i64 ic)) (q6 : w.cell? ⟨b, o + 6, none⟩ = some (.slice Ai ni ci)) (q7 : w.cell? ⟨b, o + 7, none⟩ = some (.slice Af nf cf))
    (h1 : InL w B As ns zs) (h2 : InL w B Ai ni zi) (h3 : InTS w B Af nf ts) (hn1 : ns ≤ 1048576) (hn2 : ni ≤ 1048576) (hn3 : nf ≤ 1048576) (hn4 : totT ts ≤ 1048576) :
    Calls Tryz.prog 98 #[.pointer (some ⟨b, o, none⟩)] w fun e' w' => e' = .returned (.bool (stmtB ⟨1, v, e, (sc, zs), (ic, zi), ts⟩)) ∧ w = w' := by
  have HK0 := l00In_k 1 0 8 w
  rw [decide_eq_true (by omega)] at HK0
  have HK := Lib.hid HK0
  obtain ⟨bs, HBS⟩ : ∃ x, Hid (overB (sc, zs) = x) := ⟨_, rfl⟩
  obtain ⟨bi, HBI⟩ : ∃ x, Hid (overB (ic, zi) = x) := ⟨_, rfl⟩
  obtain ⟨bf, HBF⟩ : ∃ x, Hid (oversB 6 ts = x) := ⟨_, rfl⟩
  obtain ⟨zb, HZB⟩ : ∃ x, Hid (zeroB (sc, zs) = x) := ⟨_, rfl⟩
  obtain ⟨yb, HYB⟩ : ∃ x, Hid (zeroB (ic, zi) = x) := ⟨_, rfl⟩
  have HS0 := l03Term_o b (o + 3) sc As ns cs B zs w q3 q4 h1 hn1
  have HI0 := l03Term_o b (o + 5) ic Ai ni ci B zi w q5 q6 h2 hn2
  have HF0 := l03Terms_c Af nf cf B 6 ts w h3 hn3 hn4 (by omega)
  have HZ0 := l05Zero_c b (o + 3) sc As ns cs B zs w q3 q4 h1
  have HY0 := l05Zero_c b (o + 5) ic Ai ni ci B zi w q5 q6 h2
  rw [HBS.out] at HS0
  rw [HBI.out] at HI0
  rw [HBF.out] at HF0
  rw [HZB.out] at HZ0
  rw [HYB.out] at HY0
  have HS := Lib.hid HS0
  have HI := Lib.hid HI0
  have HF := Lib.hid HF0
  have HZ := Lib.hid HZ0
  have HY := Lib.hid HY0
  obtain ⟨nb, HNB⟩ : ∃ x, Hid (decide (0 ≤ v ∧ v ≤ 3) = x) := ⟨_, rfl⟩
  have HN0 := l00In_k v 0 3 w
  rw [HNB.out] at HN0
  have HN := Lib.hid HN0
  have HE := Lib.hid (l00In_k e 0 3 w)
  have HV : Hid (stmtB ⟨1, v, e, (sc, zs), (ic, zi), ts⟩ = (bs && bi && bf && zb && yb && decide (nf = 0) && (v == 0) && (e == 0))) := by show _ = _; simp [stmtB, HBS.out, HBI.out, HBF.out, HZB.out, HYB.out, h3.1]
  rw [HV.out]
  clear h1 h2 h3 HK0 HS0 HI0 HF0 HZ0 HY0 HV HBS HBI HBF HZB HYB HNB HN0 hn1 hn2 hn3 hn4
  go_enter Tryz.func98, Tryz.ntmps98
  go_wp2_with fail
  refine HK.out.mono ?_
  rintro e9 w9 ⟨rfl, rfl⟩
  go_wp2_with fail
  refine HS.out.mono ?_
  rintro e9 w9 ⟨rfl, rfl⟩
  cases bs
  · go_wp2_with fail
    go_ret
    exact ⟨ret_bool (by simp), rfl⟩
  go_wp2_with fail
  refine HI.out.mono ?_
  rintro e9 w9 ⟨rfl, rfl⟩
  cases bi
  · go_wp2_with fail
    go_ret
    exact ⟨ret_bool (by simp), rfl⟩
  go_wp2_with fail
  refine HF.out.mono ?_
  rintro e9 w9 ⟨rfl, rfl⟩
  cases bf
  · go_wp2_with fail
    go_ret
    exact ⟨ret_bool (by simp), rfl⟩
  go_wp2_with fail
  refine HZ.out.mono ?_
  rintro e9 w9 ⟨rfl, rfl⟩
  cases zb
  · go_wp2_with fail
    go_ret
    exact ⟨ret_bool (by simp), rfl⟩
  go_wp2_with fail
  refine HY.out.mono ?_
  rintro e9 w9 ⟨rfl, rfl⟩
  cases yb
  · go_wp2_with fail
    go_ret
    exact ⟨ret_bool (by simp), rfl⟩
  by_cases z5 : nf = 0
  rotate_left
  · have r5 : (0 : Int) < (nf : Int) := by omega
    go_wp2_with fail
    go_ret
    exact ⟨ret_bool (by simp_all), rfl⟩
  have r5 : ¬ (0 : Int) < (nf : Int) := by omega
  go_wp2_with fail
  all_goals (go_ret; refine ⟨ret_bool ?_, rfl⟩; simp_all)

set_option maxRecDepth 100000 in
set_option maxHeartbeats 8000000 in
theorem l03Stmt_2 (b o : Nat) (v e : Int) (sc : Int) (As : Option Addr) (ns cs : Nat) (zs : List Int) (ic : Int) (Ai : Option Addr) (ni ci : Nat) (zi : List Int) (Af : Option Addr) (nf cf : Nat) (ts : List (Int × List Int)) (B : Nat) (w : World)
    (q0 : w.cell? ⟨b, o, none⟩ = some (.int .i64 2)) (q1 : w.cell? ⟨b, o + 1, none⟩ = some (.int .i64 v)) (q2 : w.cell? ⟨b, o + 2, none⟩ = some (.int .i64 e)) (q3 : w.cell? ⟨b, o + 3, none⟩ = some (.int .i64 sc)) (q4 : w.cell? ⟨b, o + 4, none⟩ = some (.slice As ns cs))
    (q5 : w.cell? ⟨b, o + 5, none⟩ = some (.int .i64 ic)) (q6 : w.cell? ⟨b, o + 6, none⟩ = some (.slice Ai ni ci)) (q7 : w.cell? ⟨b, o + 7, none⟩ = some (.slice Af nf cf))
    (h1 : InL w B As ns zs) (h2 : InL w B Ai ni zi) (h3 : InTS w B Af nf ts) (hn1 : ns ≤ 1048576) (hn2 : ni ≤ 1048576) (hn3 : nf ≤ 1048576) (hn4 : totT ts ≤ 1048576) :
    Calls Tryz.prog 98 #[.pointer (some ⟨b, o, none⟩)] w fun e' w' => e' = .returned (.bool (stmtB ⟨2, v, e, (sc, zs), (ic, zi), ts⟩)) ∧ w = w' := by
  have HK0 := l00In_k 2 0 8 w
  rw [decide_eq_true (by omega)] at HK0
  have HK := Lib.hid HK0
  obtain ⟨bs, HBS⟩ : ∃ x, Hid (overB (sc, zs) = x) := ⟨_, rfl⟩
  obtain ⟨bi, HBI⟩ : ∃ x, Hid (overB (ic, zi) = x) := ⟨_, rfl⟩
  obtain ⟨bf, HBF⟩ : ∃ x, Hid (oversB 6 ts = x) := ⟨_, rfl⟩
  obtain ⟨zb, HZB⟩ : ∃ x, Hid (zeroB (sc, zs) = x) := ⟨_, rfl⟩
  obtain ⟨yb, HYB⟩ : ∃ x, Hid (zeroB (ic, zi) = x) := ⟨_, rfl⟩
  have HS0 := l03Term_o b (o + 3) sc As ns cs B zs w q3 q4 h1 hn1
  have HI0 := l03Term_o b (o + 5) ic Ai ni ci B zi w q5 q6 h2 hn2
  have HF0 := l03Terms_c Af nf cf B 6 ts w h3 hn3 hn4 (by omega)
  have HZ0 := l05Zero_c b (o + 3) sc As ns cs B zs w q3 q4 h1
  have HY0 := l05Zero_c b (o + 5) ic Ai ni ci B zi w q5 q6 h2
  rw [HBS.out] at HS0
  rw [HBI.out] at HI0
  rw [HBF.out] at HF0
  rw [HZB.out] at HZ0
  rw [HYB.out] at HY0
  have HS := Lib.hid HS0
  have HI := Lib.hid HI0
  have HF := Lib.hid HF0
  have HZ := Lib.hid HZ0
  have HY := Lib.hid HY0
  obtain ⟨nb, HNB⟩ : ∃ x, Hid (decide (0 ≤ v ∧ v ≤ 3) = x) := ⟨_, rfl⟩
  have HN0 := l00In_k v 0 3 w
  rw [HNB.out] at HN0
  have HN := Lib.hid HN0
  have HE := Lib.hid (l00In_k e 0 3 w)
  have HV : Hid (stmtB ⟨2, v, e, (sc, zs), (ic, zi), ts⟩ = (bs && bi && bf && yb && decide (nf = 0) && nb && (e == 0))) := by show _ = _; simp [stmtB, HBS.out, HBI.out, HBF.out, HZB.out, HYB.out, h3.1, ← HNB.out]
  rw [HV.out]
  clear h1 h2 h3 HK0 HS0 HI0 HF0 HZ0 HY0 HV HBS HBI HBF HZB HYB HNB HN0 hn1 hn2 hn3 hn4
  go_enter Tryz.func98, Tryz.ntmps98
  go_wp2_with fail
  refine HK.out.mono ?_
  rintro e9 w9 ⟨rfl, rfl⟩
  go_wp2_with fail
  refine HS.out.mono ?_
  rintro e9 w9 ⟨rfl, rfl⟩
  cases bs
  · go_wp2_with fail
    go_ret
    exact ⟨ret_bool (by simp), rfl⟩
  go_wp2_with fail
  refine HI.out.mono ?_
  rintro e9 w9 ⟨rfl, rfl⟩
  cases bi
  · go_wp2_with fail
    go_ret
    exact ⟨ret_bool (by simp), rfl⟩
  go_wp2_with fail
  refine HF.out.mono ?_
  rintro e9 w9 ⟨rfl, rfl⟩
  cases bf
  · go_wp2_with fail
    go_ret
    exact ⟨ret_bool (by simp), rfl⟩
  go_wp2_with fail
  refine HY.out.mono ?_
  rintro e9 w9 ⟨rfl, rfl⟩
  cases yb
  · go_wp2_with fail
    go_ret
    exact ⟨ret_bool (by simp), rfl⟩
  by_cases z5 : nf = 0
  rotate_left
  · have r5 : (0 : Int) < (nf : Int) := by omega
    go_wp2_with fail
    go_ret
    exact ⟨ret_bool (by simp_all), rfl⟩
  have r5 : ¬ (0 : Int) < (nf : Int) := by omega
  go_wp2_with fail
  refine HN.out.mono ?_
  rintro e9 w9 ⟨rfl, rfl⟩
  cases nb
  · go_wp2_with fail
    go_ret
    exact ⟨ret_bool (by simp), rfl⟩
  go_wp2_with fail
  all_goals (go_ret; refine ⟨ret_bool ?_, rfl⟩; simp_all)

set_option maxRecDepth 100000 in
set_option maxHeartbeats 8000000 in
theorem l03Stmt_3 (b o : Nat) (v e : Int) (sc : Int) (As : Option Addr) (ns cs : Nat) (zs : List Int) (ic : Int) (Ai : Option Addr) (ni ci : Nat) (zi : List Int) (Af : Option Addr) (nf cf : Nat) (ts : List (Int × List Int)) (B : Nat) (w : World)
    (q0 : w.cell? ⟨b, o, none⟩ = some (.int .i64 3)) (q1 : w.cell? ⟨b, o + 1, none⟩ = some (.int .i64 v)) (q2 : w.cell? ⟨b, o + 2, none⟩ = some (.int .i64 e)) (q3 : w.cell? ⟨b, o + 3, none⟩ = some (.int .i64 sc)) (q4 : w.cell? ⟨b, o + 4, none⟩ = some (.slice As ns cs))
    (q5 : w.cell? ⟨b, o + 5, none⟩ = some (.int .i64 ic)) (q6 : w.cell? ⟨b, o + 6, none⟩ = some (.slice Ai ni ci)) (q7 : w.cell? ⟨b, o + 7, none⟩ = some (.slice Af nf cf))
    (h1 : InL w B As ns zs) (h2 : InL w B Ai ni zi) (h3 : InTS w B Af nf ts) (hn1 : ns ≤ 1048576) (hn2 : ni ≤ 1048576) (hn3 : nf ≤ 1048576) (hn4 : totT ts ≤ 1048576) :
    Calls Tryz.prog 98 #[.pointer (some ⟨b, o, none⟩)] w fun e' w' => e' = .returned (.bool (stmtB ⟨3, v, e, (sc, zs), (ic, zi), ts⟩)) ∧ w = w' := by
  have HK0 := l00In_k 3 0 8 w
  rw [decide_eq_true (by omega)] at HK0
  have HK := Lib.hid HK0
  obtain ⟨bs, HBS⟩ : ∃ x, Hid (overB (sc, zs) = x) := ⟨_, rfl⟩
  obtain ⟨bi, HBI⟩ : ∃ x, Hid (overB (ic, zi) = x) := ⟨_, rfl⟩
  obtain ⟨bf, HBF⟩ : ∃ x, Hid (oversB 6 ts = x) := ⟨_, rfl⟩
  obtain ⟨zb, HZB⟩ : ∃ x, Hid (zeroB (sc, zs) = x) := ⟨_, rfl⟩
  obtain ⟨yb, HYB⟩ : ∃ x, Hid (zeroB (ic, zi) = x) := ⟨_, rfl⟩
  have HS0 := l03Term_o b (o + 3) sc As ns cs B zs w q3 q4 h1 hn1
  have HI0 := l03Term_o b (o + 5) ic Ai ni ci B zi w q5 q6 h2 hn2
  have HF0 := l03Terms_c Af nf cf B 6 ts w h3 hn3 hn4 (by omega)
  have HZ0 := l05Zero_c b (o + 3) sc As ns cs B zs w q3 q4 h1
  have HY0 := l05Zero_c b (o + 5) ic Ai ni ci B zi w q5 q6 h2
  rw [HBS.out] at HS0
  rw [HBI.out] at HI0
  rw [HBF.out] at HF0
  rw [HZB.out] at HZ0
  rw [HYB.out] at HY0
  have HS := Lib.hid HS0
  have HI := Lib.hid HI0
  have HF := Lib.hid HF0
  have HZ := Lib.hid HZ0
  have HY := Lib.hid HY0
  obtain ⟨nb, HNB⟩ : ∃ x, Hid (decide (0 ≤ v ∧ v ≤ 3) = x) := ⟨_, rfl⟩
  have HN0 := l00In_k v 0 3 w
  rw [HNB.out] at HN0
  have HN := Lib.hid HN0
  have HE := Lib.hid (l00In_k e 0 3 w)
  have HV : Hid (stmtB ⟨3, v, e, (sc, zs), (ic, zi), ts⟩ = (bs && bi && bf && zb && decide (nf = 0) && nb && (e == 0))) := by show _ = _; simp [stmtB, HBS.out, HBI.out, HBF.out, HZB.out, HYB.out, h3.1, ← HNB.out]
  rw [HV.out]
  clear h1 h2 h3 HK0 HS0 HI0 HF0 HZ0 HY0 HV HBS HBI HBF HZB HYB HNB HN0 hn1 hn2 hn3 hn4
  go_enter Tryz.func98, Tryz.ntmps98
  go_wp2_with fail
  refine HK.out.mono ?_
  rintro e9 w9 ⟨rfl, rfl⟩
  go_wp2_with fail
  refine HS.out.mono ?_
  rintro e9 w9 ⟨rfl, rfl⟩
  cases bs
  · go_wp2_with fail
    go_ret
    exact ⟨ret_bool (by simp), rfl⟩
  go_wp2_with fail
  refine HI.out.mono ?_
  rintro e9 w9 ⟨rfl, rfl⟩
  cases bi
  · go_wp2_with fail
    go_ret
    exact ⟨ret_bool (by simp), rfl⟩
  go_wp2_with fail
  refine HF.out.mono ?_
  rintro e9 w9 ⟨rfl, rfl⟩
  cases bf
  · go_wp2_with fail
    go_ret
    exact ⟨ret_bool (by simp), rfl⟩
  go_wp2_with fail
  refine HZ.out.mono ?_
  rintro e9 w9 ⟨rfl, rfl⟩
  cases zb
  · go_wp2_with fail
    go_ret
    exact ⟨ret_bool (by simp), rfl⟩
  by_cases z5 : nf = 0
  rotate_left
  · have r5 : (0 : Int) < (nf : Int) := by omega
    go_wp2_with fail
    go_ret
    exact ⟨ret_bool (by simp_all), rfl⟩
  have r5 : ¬ (0 : Int) < (nf : Int) := by omega
  go_wp2_with fail
  refine HN.out.mono ?_
  rintro e9 w9 ⟨rfl, rfl⟩
  cases nb
  · go_wp2_with fail
    go_ret
    exact ⟨ret_bool (by simp), rfl⟩
  go_wp2_with fail
  all_goals (go_ret; refine ⟨ret_bool ?_, rfl⟩; simp_all)

set_option maxRecDepth 100000 in
set_option maxHeartbeats 8000000 in
theorem l03Stmt_4 (b o : Nat) (v e : Int) (sc : Int) (As : Option Addr) (ns cs : Nat) (zs : List Int) (ic : Int) (Ai : Option Addr) (ni ci : Nat) (zi : List Int) (Af : Option Addr) (nf cf : Nat) (ts : List (Int × List Int)) (B : Nat) (w : World)
    (q0 : w.cell? ⟨b, o, none⟩ = some (.int .i64 4)) (q1 : w.cell? ⟨b, o + 1, none⟩ = some (.int .i64 v)) (q2 : w.cell? ⟨b, o + 2, none⟩ = some (.int .i64 e)) (q3 : w.cell? ⟨b, o + 3, none⟩ = some (.int .i64 sc)) (q4 : w.cell? ⟨b, o + 4, none⟩ = some (.slice As ns cs))
    (q5 : w.cell? ⟨b, o + 5, none⟩ = some (.int .i64 ic)) (q6 : w.cell? ⟨b, o + 6, none⟩ = some (.slice Ai ni ci)) (q7 : w.cell? ⟨b, o + 7, none⟩ = some (.slice Af nf cf))
    (h1 : InL w B As ns zs) (h2 : InL w B Ai ni zi) (h3 : InTS w B Af nf ts) (hn1 : ns ≤ 1048576) (hn2 : ni ≤ 1048576) (hn3 : nf ≤ 1048576) (hn4 : totT ts ≤ 1048576) :
    Calls Tryz.prog 98 #[.pointer (some ⟨b, o, none⟩)] w fun e' w' => e' = .returned (.bool (stmtB ⟨4, v, e, (sc, zs), (ic, zi), ts⟩)) ∧ w = w' := by
  have HK0 := l00In_k 4 0 8 w
  rw [decide_eq_true (by omega)] at HK0
  have HK := Lib.hid HK0
  obtain ⟨bs, HBS⟩ : ∃ x, Hid (overB (sc, zs) = x) := ⟨_, rfl⟩
  obtain ⟨bi, HBI⟩ : ∃ x, Hid (overB (ic, zi) = x) := ⟨_, rfl⟩
  obtain ⟨bf, HBF⟩ : ∃ x, Hid (oversB 6 ts = x) := ⟨_, rfl⟩
  obtain ⟨zb, HZB⟩ : ∃ x, Hid (zeroB (sc, zs) = x) := ⟨_, rfl⟩
  obtain ⟨yb, HYB⟩ : ∃ x, Hid (zeroB (ic, zi) = x) := ⟨_, rfl⟩
  have HS0 := l03Term_o b (o + 3) sc As ns cs B zs w q3 q4 h1 hn1
  have HI0 := l03Term_o b (o + 5) ic Ai ni ci B zi w q5 q6 h2 hn2
  have HF0 := l03Terms_c Af nf cf B 6 ts w h3 hn3 hn4 (by omega)
  have HZ0 := l05Zero_c b (o + 3) sc As ns cs B zs w q3 q4 h1
  have HY0 := l05Zero_c b (o + 5) ic Ai ni ci B zi w q5 q6 h2
  rw [HBS.out] at HS0
  rw [HBI.out] at HI0
  rw [HBF.out] at HF0
  rw [HZB.out] at HZ0
  rw [HYB.out] at HY0
  have HS := Lib.hid HS0
  have HI := Lib.hid HI0
  have HF := Lib.hid HF0
  have HZ := Lib.hid HZ0
  have HY := Lib.hid HY0
  obtain ⟨nb, HNB⟩ : ∃ x, Hid (decide (0 ≤ v ∧ v ≤ 3) = x) := ⟨_, rfl⟩
  have HN0 := l00In_k v 0 3 w
  rw [HNB.out] at HN0
  have HN := Lib.hid HN0
  have HE := Lib.hid (l00In_k e 0 3 w)
  have HV : Hid (stmtB ⟨4, v, e, (sc, zs), (ic, zi), ts⟩ = (bs && bi && bf && decide (nf = 0) && (v == 0) && (e == 0))) := by show _ = _; simp [stmtB, HBS.out, HBI.out, HBF.out, HZB.out, HYB.out, h3.1]
  rw [HV.out]
  clear h1 h2 h3 HK0 HS0 HI0 HF0 HZ0 HY0 HV HBS HBI HBF HZB HYB HNB HN0 hn1 hn2 hn3 hn4
  go_enter Tryz.func98, Tryz.ntmps98
  go_wp2_with fail
  refine HK.out.mono ?_
  rintro e9 w9 ⟨rfl, rfl⟩
  go_wp2_with fail
  refine HS.out.mono ?_
  rintro e9 w9 ⟨rfl, rfl⟩
  cases bs
  · go_wp2_with fail
    go_ret
    exact ⟨ret_bool (by simp), rfl⟩
  go_wp2_with fail
  refine HI.out.mono ?_
  rintro e9 w9 ⟨rfl, rfl⟩
  cases bi
  · go_wp2_with fail
    go_ret
    exact ⟨ret_bool (by simp), rfl⟩
  go_wp2_with fail
  refine HF.out.mono ?_
  rintro e9 w9 ⟨rfl, rfl⟩
  cases bf
  · go_wp2_with fail
    go_ret
    exact ⟨ret_bool (by simp), rfl⟩
  by_cases z5 : nf = 0
  rotate_left
  · have r5 : (0 : Int) < (nf : Int) := by omega
    go_wp2_with fail
    go_ret
    exact ⟨ret_bool (by simp_all), rfl⟩
  have r5 : ¬ (0 : Int) < (nf : Int) := by omega
  go_wp2_with fail
  all_goals (go_ret; refine ⟨ret_bool ?_, rfl⟩; simp_all)

set_option maxRecDepth 100000 in
set_option maxHeartbeats 8000000 in
theorem l03Stmt_5 (b o : Nat) (v e : Int) (sc : Int) (As : Option Addr) (ns cs : Nat) (zs : List Int) (ic : Int) (Ai : Option Addr) (ni ci : Nat) (zi : List Int) (Af : Option Addr) (nf cf : Nat) (ts : List (Int × List Int)) (B : Nat) (w : World)
    (q0 : w.cell? ⟨b, o, none⟩ = some (.int .i64 5)) (q1 : w.cell? ⟨b, o + 1, none⟩ = some (.int .i64 v)) (q2 : w.cell? ⟨b, o + 2, none⟩ = some (.int .i64 e)) (q3 : w.cell? ⟨b, o + 3, none⟩ = some (.int .i64 sc)) (q4 : w.cell? ⟨b, o + 4, none⟩ = some (.slice As ns cs))
    (q5 : w.cell? ⟨b, o + 5, none⟩ = some (.int .i64 ic)) (q6 : w.cell? ⟨b, o + 6, none⟩ = some (.slice Ai ni ci)) (q7 : w.cell? ⟨b, o + 7, none⟩ = some (.slice Af nf cf))
    (h1 : InL w B As ns zs) (h2 : InL w B Ai ni zi) (h3 : InTS w B Af nf ts) (hn1 : ns ≤ 1048576) (hn2 : ni ≤ 1048576) (hn3 : nf ≤ 1048576) (hn4 : totT ts ≤ 1048576) :
    Calls Tryz.prog 98 #[.pointer (some ⟨b, o, none⟩)] w fun e' w' => e' = .returned (.bool (stmtB ⟨5, v, e, (sc, zs), (ic, zi), ts⟩)) ∧ w = w' := by
  have HK0 := l00In_k 5 0 8 w
  rw [decide_eq_true (by omega)] at HK0
  have HK := Lib.hid HK0
  obtain ⟨bs, HBS⟩ : ∃ x, Hid (overB (sc, zs) = x) := ⟨_, rfl⟩
  obtain ⟨bi, HBI⟩ : ∃ x, Hid (overB (ic, zi) = x) := ⟨_, rfl⟩
  obtain ⟨bf, HBF⟩ : ∃ x, Hid (oversB 6 ts = x) := ⟨_, rfl⟩
  obtain ⟨zb, HZB⟩ : ∃ x, Hid (zeroB (sc, zs) = x) := ⟨_, rfl⟩
  obtain ⟨yb, HYB⟩ : ∃ x, Hid (zeroB (ic, zi) = x) := ⟨_, rfl⟩
  have HS0 := l03Term_o b (o + 3) sc As ns cs B zs w q3 q4 h1 hn1
  have HI0 := l03Term_o b (o + 5) ic Ai ni ci B zi w q5 q6 h2 hn2
  have HF0 := l03Terms_c Af nf cf B 6 ts w h3 hn3 hn4 (by omega)
  have HZ0 := l05Zero_c b (o + 3) sc As ns cs B zs w q3 q4 h1
  have HY0 := l05Zero_c b (o + 5) ic Ai ni ci B zi w q5 q6 h2
  rw [HBS.out] at HS0
  rw [HBI.out] at HI0
  rw [HBF.out] at HF0
  rw [HZB.out] at HZ0
  rw [HYB.out] at HY0
  have HS := Lib.hid HS0
  have HI := Lib.hid HI0
  have HF := Lib.hid HF0
  have HZ := Lib.hid HZ0
  have HY := Lib.hid HY0
  obtain ⟨nb, HNB⟩ : ∃ x, Hid (decide (0 ≤ v ∧ v ≤ 3) = x) := ⟨_, rfl⟩
  have HN0 := l00In_k v 0 3 w
  rw [HNB.out] at HN0
  have HN := Lib.hid HN0
  have HE := Lib.hid (l00In_k e 0 3 w)
  have HV : Hid (stmtB ⟨5, v, e, (sc, zs), (ic, zi), ts⟩ = (bs && bi && bf && zb && yb && decide (nf = 0) && (v == 0) && decide (0 ≤ e ∧ e ≤ 3))) := by show _ = _; simp [stmtB, HBS.out, HBI.out, HBF.out, HZB.out, HYB.out, h3.1]
  rw [HV.out]
  clear h1 h2 h3 HK0 HS0 HI0 HF0 HZ0 HY0 HV HBS HBI HBF HZB HYB HNB HN0 hn1 hn2 hn3 hn4
  go_enter Tryz.func98, Tryz.ntmps98
  go_wp2_with fail
  refine HK.out.mono ?_
  rintro e9 w9 ⟨rfl, rfl⟩
  go_wp2_with fail
  refine HS.out.mono ?_
  rintro e9 w9 ⟨rfl, rfl⟩
  cases bs
  · go_wp2_with fail
    go_ret
    exact ⟨ret_bool (by simp), rfl⟩
  go_wp2_with fail
  refine HI.out.mono ?_
  rintro e9 w9 ⟨rfl, rfl⟩
  cases bi
  · go_wp2_with fail
    go_ret
    exact ⟨ret_bool (by simp), rfl⟩
  go_wp2_with fail
  refine HF.out.mono ?_
  rintro e9 w9 ⟨rfl, rfl⟩
  cases bf
  · go_wp2_with fail
    go_ret
    exact ⟨ret_bool (by simp), rfl⟩
  go_wp2_with fail
  refine HZ.out.mono ?_
  rintro e9 w9 ⟨rfl, rfl⟩
  cases zb
  · go_wp2_with fail
    go_ret
    exact ⟨ret_bool (by simp), rfl⟩
  go_wp2_with fail
  refine HY.out.mono ?_
  rintro e9 w9 ⟨rfl, rfl⟩
  cases yb
  · go_wp2_with fail
    go_ret
    exact ⟨ret_bool (by simp), rfl⟩
  by_cases z5 : nf = 0
  rotate_left
  · have r5 : (0 : Int) < (nf : Int) := by omega
    go_wp2_with fail
    go_ret
    exact ⟨ret_bool (by simp_all), rfl⟩
  have r5 : ¬ (0 : Int) < (nf : Int) := by omega
  by_cases z6 : v = 0
  rotate_left
  · have r6 : (v == 0) = false := by simpa using z6
    go_wp2_with fail
    go_ret
    exact ⟨ret_bool (by simp_all), rfl⟩
  have r6 : (v == 0) = true := by simpa using z6
  go_wp2_with fail
  refine HE.out.mono ?_
  rintro e9 w9 ⟨rfl, rfl⟩
  go_wp2_with fail
  all_goals (go_ret; refine ⟨ret_bool ?_, rfl⟩; simp_all)

set_option maxRecDepth 100000 in
set_option maxHeartbeats 8000000 in
theorem l03Stmt_6 (b o : Nat) (v e : Int) (sc : Int) (As : Option Addr) (ns cs : Nat) (zs : List Int) (ic : Int) (Ai : Option Addr) (ni ci : Nat) (zi : List Int) (Af : Option Addr) (nf cf : Nat) (ts : List (Int × List Int)) (B : Nat) (w : World)
    (q0 : w.cell? ⟨b, o, none⟩ = some (.int .i64 6)) (q1 : w.cell? ⟨b, o + 1, none⟩ = some (.int .i64 v)) (q2 : w.cell? ⟨b, o + 2, none⟩ = some (.int .i64 e)) (q3 : w.cell? ⟨b, o + 3, none⟩ = some (.int .i64 sc)) (q4 : w.cell? ⟨b, o + 4, none⟩ = some (.slice As ns cs))
    (q5 : w.cell? ⟨b, o + 5, none⟩ = some (.int .i64 ic)) (q6 : w.cell? ⟨b, o + 6, none⟩ = some (.slice Ai ni ci)) (q7 : w.cell? ⟨b, o + 7, none⟩ = some (.slice Af nf cf))
    (h1 : InL w B As ns zs) (h2 : InL w B Ai ni zi) (h3 : InTS w B Af nf ts) (hn1 : ns ≤ 1048576) (hn2 : ni ≤ 1048576) (hn3 : nf ≤ 1048576) (hn4 : totT ts ≤ 1048576) :
    Calls Tryz.prog 98 #[.pointer (some ⟨b, o, none⟩)] w fun e' w' => e' = .returned (.bool (stmtB ⟨6, v, e, (sc, zs), (ic, zi), ts⟩)) ∧ w = w' := by
  have HK0 := l00In_k 6 0 8 w
  rw [decide_eq_true (by omega)] at HK0
  have HK := Lib.hid HK0
  obtain ⟨bs, HBS⟩ : ∃ x, Hid (overB (sc, zs) = x) := ⟨_, rfl⟩
  obtain ⟨bi, HBI⟩ : ∃ x, Hid (overB (ic, zi) = x) := ⟨_, rfl⟩
  obtain ⟨bf, HBF⟩ : ∃ x, Hid (oversB 6 ts = x) := ⟨_, rfl⟩
  obtain ⟨zb, HZB⟩ : ∃ x, Hid (zeroB (sc, zs) = x) := ⟨_, rfl⟩
  obtain ⟨yb, HYB⟩ : ∃ x, Hid (zeroB (ic, zi) = x) := ⟨_, rfl⟩
  have HS0 := l03Term_o b (o + 3) sc As ns cs B zs w q3 q4 h1 hn1
  have HI0 := l03Term_o b (o + 5) ic Ai ni ci B zi w q5 q6 h2 hn2
  have HF0 := l03Terms_c Af nf cf B 6 ts w h3 hn3 hn4 (by omega)
  have HZ0 := l05Zero_c b (o + 3) sc As ns cs B zs w q3 q4 h1
  have HY0 := l05Zero_c b (o + 5) ic Ai ni ci B zi w q5 q6 h2
  rw [HBS.out] at HS0
  rw [HBI.out] at HI0
  rw [HBF.out] at HF0
  rw [HZB.out] at HZ0
  rw [HYB.out] at HY0
  have HS := Lib.hid HS0
  have HI := Lib.hid HI0
  have HF := Lib.hid HF0
  have HZ := Lib.hid HZ0
  have HY := Lib.hid HY0
  obtain ⟨nb, HNB⟩ : ∃ x, Hid (decide (0 ≤ v ∧ v ≤ 3) = x) := ⟨_, rfl⟩
  have HN0 := l00In_k v 0 3 w
  rw [HNB.out] at HN0
  have HN := Lib.hid HN0
  have HE := Lib.hid (l00In_k e 0 3 w)
  have HV : Hid (stmtB ⟨6, v, e, (sc, zs), (ic, zi), ts⟩ = (bs && bi && bf && yb && decide (nf = 0) && (v == 0) && (e == 0))) := by show _ = _; simp [stmtB, HBS.out, HBI.out, HBF.out, HZB.out, HYB.out, h3.1]
  rw [HV.out]
  clear h1 h2 h3 HK0 HS0 HI0 HF0 HZ0 HY0 HV HBS HBI HBF HZB HYB HNB HN0 hn1 hn2 hn3 hn4
  go_enter Tryz.func98, Tryz.ntmps98
  go_wp2_with fail
  refine HK.out.mono ?_
  rintro e9 w9 ⟨rfl, rfl⟩
  go_wp2_with fail
  refine HS.out.mono ?_
  rintro e9 w9 ⟨rfl, rfl⟩
  cases bs
  · go_wp2_with fail
    go_ret
    exact ⟨ret_bool (by simp), rfl⟩
  go_wp2_with fail
  refine HI.out.mono ?_
  rintro e9 w9 ⟨rfl, rfl⟩
  cases bi
  · go_wp2_with fail
    go_ret
    exact ⟨ret_bool (by simp), rfl⟩
  go_wp2_with fail
  refine HF.out.mono ?_
  rintro e9 w9 ⟨rfl, rfl⟩
  cases bf
  · go_wp2_with fail
    go_ret
    exact ⟨ret_bool (by simp), rfl⟩
  go_wp2_with fail
  refine HY.out.mono ?_
  rintro e9 w9 ⟨rfl, rfl⟩
  cases yb
  · go_wp2_with fail
    go_ret
    exact ⟨ret_bool (by simp), rfl⟩
  by_cases z5 : nf = 0
  rotate_left
  · have r5 : (0 : Int) < (nf : Int) := by omega
    go_wp2_with fail
    go_ret
    exact ⟨ret_bool (by simp_all), rfl⟩
  have r5 : ¬ (0 : Int) < (nf : Int) := by omega
  go_wp2_with fail
  all_goals (go_ret; refine ⟨ret_bool ?_, rfl⟩; simp_all)

set_option maxRecDepth 100000 in
set_option maxHeartbeats 8000000 in
theorem l03Stmt_7 (b o : Nat) (v e : Int) (sc : Int) (As : Option Addr) (ns cs : Nat) (zs : List Int) (ic : Int) (Ai : Option Addr) (ni ci : Nat) (zi : List Int) (Af : Option Addr) (nf cf : Nat) (ts : List (Int × List Int)) (B : Nat) (w : World)
    (q0 : w.cell? ⟨b, o, none⟩ = some (.int .i64 7)) (q1 : w.cell? ⟨b, o + 1, none⟩ = some (.int .i64 v)) (q2 : w.cell? ⟨b, o + 2, none⟩ = some (.int .i64 e)) (q3 : w.cell? ⟨b, o + 3, none⟩ = some (.int .i64 sc)) (q4 : w.cell? ⟨b, o + 4, none⟩ = some (.slice As ns cs))
    (q5 : w.cell? ⟨b, o + 5, none⟩ = some (.int .i64 ic)) (q6 : w.cell? ⟨b, o + 6, none⟩ = some (.slice Ai ni ci)) (q7 : w.cell? ⟨b, o + 7, none⟩ = some (.slice Af nf cf))
    (h1 : InL w B As ns zs) (h2 : InL w B Ai ni zi) (h3 : InTS w B Af nf ts) (hn1 : ns ≤ 1048576) (hn2 : ni ≤ 1048576) (hn3 : nf ≤ 1048576) (hn4 : totT ts ≤ 1048576) :
    Calls Tryz.prog 98 #[.pointer (some ⟨b, o, none⟩)] w fun e' w' => e' = .returned (.bool (stmtB ⟨7, v, e, (sc, zs), (ic, zi), ts⟩)) ∧ w = w' := by
  have HK0 := l00In_k 7 0 8 w
  rw [decide_eq_true (by omega)] at HK0
  have HK := Lib.hid HK0
  obtain ⟨bs, HBS⟩ : ∃ x, Hid (overB (sc, zs) = x) := ⟨_, rfl⟩
  obtain ⟨bi, HBI⟩ : ∃ x, Hid (overB (ic, zi) = x) := ⟨_, rfl⟩
  obtain ⟨bf, HBF⟩ : ∃ x, Hid (oversB 6 ts = x) := ⟨_, rfl⟩
  obtain ⟨zb, HZB⟩ : ∃ x, Hid (zeroB (sc, zs) = x) := ⟨_, rfl⟩
  obtain ⟨yb, HYB⟩ : ∃ x, Hid (zeroB (ic, zi) = x) := ⟨_, rfl⟩
  have HS0 := l03Term_o b (o + 3) sc As ns cs B zs w q3 q4 h1 hn1
  have HI0 := l03Term_o b (o + 5) ic Ai ni ci B zi w q5 q6 h2 hn2
  have HF0 := l03Terms_c Af nf cf B 6 ts w h3 hn3 hn4 (by omega)
  have HZ0 := l05Zero_c b (o + 3) sc As ns cs B zs w q3 q4 h1
  have HY0 := l05Zero_c b (o + 5) ic Ai ni ci B zi w q5 q6 h2
  rw [HBS.out] at HS0
  rw [HBI.out] at HI0
  rw [HBF.out] at HF0
  rw [HZB.out] at HZ0
  rw [HYB.out] at HY0
  have HS := Lib.hid HS0
  have HI := Lib.hid HI0
  have HF := Lib.hid HF0
  have HZ := Lib.hid HZ0
  have HY := Lib.hid HY0
  obtain ⟨nb, HNB⟩ : ∃ x, Hid (decide (0 ≤ v ∧ v ≤ 3) = x) := ⟨_, rfl⟩
  have HN0 := l00In_k v 0 3 w
  rw [HNB.out] at HN0
  have HN := Lib.hid HN0
  have HE := Lib.hid (l00In_k e 0 3 w)
  have HV : Hid (stmtB ⟨7, v, e, (sc, zs), (ic, zi), ts⟩ = (bs && bi && bf && yb && decide (nf = 0) && (v == 0) && (e == 0))) := by show _ = _; simp [stmtB, HBS.out, HBI.out, HBF.out, HZB.out, HYB.out, h3.1]
  rw [HV.out]
  clear h1 h2 h3 HK0 HS0 HI0 HF0 HZ0 HY0 HV HBS HBI HBF HZB HYB HNB HN0 hn1 hn2 hn3 hn4
  go_enter Tryz.func98, Tryz.ntmps98
  go_wp2_with fail
  refine HK.out.mono ?_
  rintro e9 w9 ⟨rfl, rfl⟩
  go_wp2_with fail
  refine HS.out.mono ?_
  rintro e9 w9 ⟨rfl, rfl⟩
  cases bs
  · go_wp2_with fail
    go_ret
    exact ⟨ret_bool (by simp), rfl⟩
  go_wp2_with fail
  refine HI.out.mono ?_
  rintro e9 w9 ⟨rfl, rfl⟩
  cases bi
  · go_wp2_with fail
    go_ret
    exact ⟨ret_bool (by simp), rfl⟩
  go_wp2_with fail
  refine HF.out.mono ?_
  rintro e9 w9 ⟨rfl, rfl⟩
  cases bf
  · go_wp2_with fail
    go_ret
    exact ⟨ret_bool (by simp), rfl⟩
  go_wp2_with fail
  refine HY.out.mono ?_
  rintro e9 w9 ⟨rfl, rfl⟩
  cases yb
  · go_wp2_with fail
    go_ret
    exact ⟨ret_bool (by simp), rfl⟩
  by_cases z5 : nf = 0
  rotate_left
  · have r5 : (0 : Int) < (nf : Int) := by omega
    go_wp2_with fail
    go_ret
    exact ⟨ret_bool (by simp_all), rfl⟩
  have r5 : ¬ (0 : Int) < (nf : Int) := by omega
  go_wp2_with fail
  all_goals (go_ret; refine ⟨ret_bool ?_, rfl⟩; simp_all)

set_option maxRecDepth 100000 in
set_option maxHeartbeats 8000000 in
theorem l03Stmt_8 (b o : Nat) (v e : Int) (sc : Int) (As : Option Addr) (ns cs : Nat) (zs : List Int) (ic : Int) (Ai : Option Addr) (ni ci : Nat) (zi : List Int) (Af : Option Addr) (nf cf : Nat) (ts : List (Int × List Int)) (B : Nat) (w : World)
    (q0 : w.cell? ⟨b, o, none⟩ = some (.int .i64 8)) (q1 : w.cell? ⟨b, o + 1, none⟩ = some (.int .i64 v)) (q2 : w.cell? ⟨b, o + 2, none⟩ = some (.int .i64 e)) (q3 : w.cell? ⟨b, o + 3, none⟩ = some (.int .i64 sc)) (q4 : w.cell? ⟨b, o + 4, none⟩ = some (.slice As ns cs))
    (q5 : w.cell? ⟨b, o + 5, none⟩ = some (.int .i64 ic)) (q6 : w.cell? ⟨b, o + 6, none⟩ = some (.slice Ai ni ci)) (q7 : w.cell? ⟨b, o + 7, none⟩ = some (.slice Af nf cf))
    (h1 : InL w B As ns zs) (h2 : InL w B Ai ni zi) (h3 : InTS w B Af nf ts) (hn1 : ns ≤ 1048576) (hn2 : ni ≤ 1048576) (hn3 : nf ≤ 1048576) (hn4 : totT ts ≤ 1048576) :
    Calls Tryz.prog 98 #[.pointer (some ⟨b, o, none⟩)] w fun e' w' => e' = .returned (.bool (stmtB ⟨8, v, e, (sc, zs), (ic, zi), ts⟩)) ∧ w = w' := by
  have HK0 := l00In_k 8 0 8 w
  rw [decide_eq_true (by omega)] at HK0
  have HK := Lib.hid HK0
  obtain ⟨bs, HBS⟩ : ∃ x, Hid (overB (sc, zs) = x) := ⟨_, rfl⟩
  obtain ⟨bi, HBI⟩ : ∃ x, Hid (overB (ic, zi) = x) := ⟨_, rfl⟩
  obtain ⟨bf, HBF⟩ : ∃ x, Hid (oversB 6 ts = x) := ⟨_, rfl⟩
  obtain ⟨zb, HZB⟩ : ∃ x, Hid (zeroB (sc, zs) = x) := ⟨_, rfl⟩
  obtain ⟨yb, HYB⟩ : ∃ x, Hid (zeroB (ic, zi) = x) := ⟨_, rfl⟩
  have HS0 := l03Term_o b (o + 3) sc As ns cs B zs w q3 q4 h1 hn1
  have HI0 := l03Term_o b (o + 5) ic Ai ni ci B zi w q5 q6 h2 hn2
  have HF0 := l03Terms_c Af nf cf B 6 ts w h3 hn3 hn4 (by omega)
  have HZ0 := l05Zero_c b (o + 3) sc As ns cs B zs w q3 q4 h1
  have HY0 := l05Zero_c b (o + 5) ic Ai ni ci B zi w q5 q6 h2
  rw [HBS.out] at HS0
  rw [HBI.out] at HI0
  rw [HBF.out] at HF0
  rw [HZB.out] at HZ0
  rw [HYB.out] at HY0
  have HS := Lib.hid HS0
  have HI := Lib.hid HI0
  have HF := Lib.hid HF0
  have HZ := Lib.hid HZ0
  have HY := Lib.hid HY0
  obtain ⟨nb, HNB⟩ : ∃ x, Hid (decide (0 ≤ v ∧ v ≤ 3) = x) := ⟨_, rfl⟩
  have HN0 := l00In_k v 0 3 w
  rw [HNB.out] at HN0
  have HN := Lib.hid HN0
  have HE := Lib.hid (l00In_k e 0 3 w)
  have HV : Hid (stmtB ⟨8, v, e, (sc, zs), (ic, zi), ts⟩ = (bs && bi && bf && yb && (v == 0) && (e == 0))) := by show _ = _; simp [stmtB, HBS.out, HBI.out, HBF.out, HZB.out, HYB.out, h3.1]
  rw [HV.out]
  clear h1 h2 h3 HK0 HS0 HI0 HF0 HZ0 HY0 HV HBS HBI HBF HZB HYB HNB HN0 hn1 hn2 hn3 hn4
  go_enter Tryz.func98, Tryz.ntmps98
  go_wp2_with fail
  refine HK.out.mono ?_
  rintro e9 w9 ⟨rfl, rfl⟩
  go_wp2_with fail
  refine HS.out.mono ?_
  rintro e9 w9 ⟨rfl, rfl⟩
  cases bs
  · go_wp2_with fail
    go_ret
    exact ⟨ret_bool (by simp), rfl⟩
  go_wp2_with fail
  refine HI.out.mono ?_
  rintro e9 w9 ⟨rfl, rfl⟩
  cases bi
  · go_wp2_with fail
    go_ret
    exact ⟨ret_bool (by simp), rfl⟩
  go_wp2_with fail
  refine HF.out.mono ?_
  rintro e9 w9 ⟨rfl, rfl⟩
  cases bf
  · go_wp2_with fail
    go_ret
    exact ⟨ret_bool (by simp), rfl⟩
  go_wp2_with fail
  refine HY.out.mono ?_
  rintro e9 w9 ⟨rfl, rfl⟩
  cases yb
  · go_wp2_with fail
    go_ret
    exact ⟨ret_bool (by simp), rfl⟩
  go_wp2_with fail
  all_goals (go_ret; refine ⟨ret_bool ?_, rfl⟩; simp_all)
end Go.Proofs.YtajmbnimdngjhaaGreatDoor
