/-
  Lists of nodes: what the model's l05Node, l05End and l05Is give. Conditions: at most 2^20 nodes and numbers.
-/
import Derived.Test.YtejgpooghengmaaDoorNode
import Derived.Test.YtejgpooghengmaaDoorValid
namespace Go.Proofs.YtejgpooghengmaaDoor
set_option linter.unusedVariables false
open Go.RowKit

def zerT (t : Int × List Int) : Bool := decide (t.1 = 0 ∧ t.2.length = 0)
def mulsB (l : List Int) : Bool := btw 0 1000000 l && decide (l.length ≤ 20)
/-- The fields of a node are valid. -/
def nodeB (x : N5) : Bool :=
  if x.k = 1 then (x.f == 0) && (zerT x.t && mulsB x.m) else
  if x.k = 2 then (x.f == 0) && (tmB x.t && decide (x.m.length = 0)) else
  if x.k = 3 then decide (0 ≤ x.f ∧ x.f ≤ 19) && (zerT x.t && decide (x.m.length = 0)) else false
/-- How many subproofs follow behind a node. -/
def forks (k : Int) : Nat := if k = 1 then 0 else if k = 2 then 2 else 1
theorem forks_le (k : Int) : forks k ≤ 2 := by unfold forks; split <;> (try split) <;> omega
/-- The index behind so many proofs; -1 if they are not whole. -/
def endN : Nat → List N5 → Nat → Int
  | 0, _, k => k
  | _ + 1, [], _ => -1
  | m + 1, x :: xs, k => endN (m + forks x.k) xs (k + 1)
theorem endN_done (xs : List N5) (k : Nat) : endN 0 xs k = k := by cases xs <;> rfl
theorem endN_out {xs : List N5} {m j : Nat} (hm : 0 < m) (h : xs.length ≤ j) : endN m (xs.drop j) j = -1 := by
  rw [List.drop_of_length_le h]
  match m, hm with
  | m + 1, _ => rfl
theorem endN_next {xs : List N5} {m j : Nat} {x : N5} (hm : 0 < m) (h : xs[j]? = some x) : endN m (xs.drop j) j = endN (m - 1 + forks x.k) (xs.drop (j + 1)) (j + 1) := by
  obtain ⟨hj, e⟩ := List.getElem?_eq_some_iff.1 h
  rw [List.drop_eq_getElem_cons hj, e]
  match m, hm with
  | m + 1, _ => rfl
/-- A list of nodes is one proof. -/
def proofB (xs : List N5) : Bool := decide (1 ≤ xs.length ∧ xs.length ≤ 60) && (xs.all nodeB && decide (endN 1 xs 0 = (xs.length : Int)))
theorem proofB_size {xs : List N5} (h : ¬ (1 ≤ xs.length ∧ xs.length ≤ 60)) : proofB xs = false := by unfold proofB; rw [decide_eq_false h]; rfl
theorem proofB_elem {xs : List N5} {k : Nat} {x : N5} (hx : xs[k]? = some x) (h : nodeB x = false) : proofB xs = false := by
  have : xs.all nodeB = false := by
    rw [List.all_eq_false]
    exact ⟨x, List.mem_of_getElem? hx, by rw [h]; simp⟩
  unfold proofB; rw [this]; simp
theorem proofB_all {xs : List N5} (h : 1 ≤ xs.length ∧ xs.length ≤ 60) (ha : ∀ x ∈ xs, nodeB x = true) : proofB xs = decide (endN 1 xs 0 = (xs.length : Int)) := by
  unfold proofB; rw [decide_eq_true h, List.all_eq_true.2 ha]; rfl
theorem nall_succ {p : N5 → Prop} {ts : List N5} {k : Nat} {t : N5} (h : ∀ u ∈ ts.take k, p u) (ht : ts[k]? = some t) (hp : p t) : ∀ u ∈ ts.take (k + 1), p u := by
  intro u hu
  rw [List.take_add_one, ht] at hu
  rcases List.mem_append.1 hu with h1 | h1
  · exact h u h1
  · obtain rfl : u = t := by simpa using h1
    exact hp
theorem mtake_succ {zs : List Int} {k : Nat} {x : Int} (h : ∀ z ∈ zs.take k, (0 : Int) ≤ z ∧ z ≤ 1000000) (hx : zs[k]? = some x) (h1 : 0 ≤ x ∧ x ≤ 1000000) : Hid (∀ z ∈ zs.take (k + 1), (0 : Int) ≤ z ∧ z ≤ 1000000) := by
  intro z hz
  rw [List.take_add_one, hx] at hz
  rcases List.mem_append.1 hz with h2 | h2
  · exact h z h2
  · obtain rfl : z = x := by simpa using h2
    exact h1
theorem mulsB_no {zs : List Int} {k : Nat} {x : Int} (hx : zs[k]? = some x) (h : ¬ (0 ≤ x ∧ x ≤ 1000000)) : mulsB zs = false := by
  unfold mulsB btw
  rw [decide_eq_false (fun a => h (a x (List.mem_of_getElem? hx)))]; rfl
theorem mulsB_yes {zs : List Int} {n : Nat} (h : ∀ z ∈ zs.take n, (0 : Int) ≤ z ∧ z ≤ 1000000) (hn : zs.length = n) : mulsB zs = decide ((n : Int) ≤ 20) := by
  rw [List.take_of_length_le (by omega)] at h
  unfold mulsB btw
  rw [decide_eq_true h, hn, Bool.true_and, Bool.eq_iff_iff]; simp; omega

theorem l00In_n (n a c : Int) (w : World) : Calls Tryd.prog 50 #[.int .i64 n, .int .i64 a, .int .i64 c] w fun e w' => e = .returned (.bool (decide (a ≤ n ∧ n ≤ c))) ∧ w = w' := by
  by_cases z : a ≤ n
  · by_cases y : n ≤ c
    · rw [decide_eq_true ⟨z, y⟩]
      go_enter Tryd.func50, Tryd.ntmps50
      go_wp2_with fail
      go_ret
      exact ⟨ret_bool (by first | (simp; done) | (simp [z, y]; done)), rfl⟩
    · rw [decide_eq_false (fun h => y h.2)]
      go_enter Tryd.func50, Tryd.ntmps50
      go_wp2_with fail
      go_ret
      exact ⟨ret_bool (by first | (simp; done) | (simp [y]; done)), rfl⟩
  · rw [decide_eq_false (fun h => z h.1)]
    go_enter Tryd.func50, Tryd.ntmps50
    go_wp2_with fail
    go_ret
    exact ⟨ret_bool (by first | (simp; done) | (simp [z]; done)), rfl⟩

set_option maxRecDepth 100000 in
theorem l05Zero_n (b o : Nat) (c0 : Int) (A : Option Addr) (n c B : Nat) (zs : List Int) (w : World) (hc0 : w.cell? ⟨b, o, none⟩ = some (.int .i64 c0)) (hc1 : w.cell? ⟨b, o + 1, none⟩ = some (.slice A n c)) (h : InL w B A n zs) :
    Calls Tryd.prog 93 #[.pointer (some ⟨b, o, none⟩)] w fun e w' => e = .returned (.bool (zerT (c0, zs))) ∧ w = w' := by
  have hlen := h.1
  have HV : Hid (zerT (c0, zs) = decide (c0 = 0 ∧ n = 0)) := by show _ = _; unfold zerT; rw [← hlen]
  clear h hlen
  by_cases z : c0 = 0
  · have r1 : (c0 == 0) = true := by simpa using z
    by_cases y : n = 0
    · have r2 : ((n : Int) == 0) = true := by simp; omega
      rw [HV.out, decide_eq_true ⟨z, y⟩]
      clear HV
      go_enter Tryd.func93, Tryd.ntmps93
      go_wp2_with fail
      go_ret
      exact ⟨rfl, rfl⟩
    · have r2 : ((n : Int) == 0) = false := by simp; omega
      rw [HV.out, decide_eq_false (fun a => y a.2)]
      clear HV
      go_enter Tryd.func93, Tryd.ntmps93
      go_wp2_with fail
      go_ret
      exact ⟨rfl, rfl⟩
  · have r1 : (c0 == 0) = false := by simpa using z
    rw [HV.out, decide_eq_false (fun a => z a.1)]
    clear HV
    go_enter Tryd.func93, Tryd.ntmps93
    go_wp2_with fail
    go_ret
    exact ⟨rfl, rfl⟩

set_option maxRecDepth 100000 in
set_option maxHeartbeats 1000000 in
theorem l05Multipliers_c (A : Option Addr) (n c B : Nat) (ks : List Int) (w : World) (h : InL w B A n ks) (hn : n ≤ 1048576) :
    Calls Tryd.prog 94 #[.slice A n c] w fun e w' => e = .returned (.bool (mulsB ks)) ∧ w = w' := by
  have hlen := Lib.hid h.1
  go_enter Tryd.func94, Tryd.ntmps94
  go_wp2_with fail
  go_loop [3] (fun i => ∃ k : Nat, k ≤ n ∧ i = .int .i64 k ∧ Hid (∀ z ∈ ks.take k, 0 ≤ z ∧ z ≤ 1000000)) (fun i => n - (intOf i).toNat)
  case atStart => exact ⟨0, Nat.zero_le _, rfl, by intro z hz; simp at hz⟩
  case round =>
    obtain ⟨k, hk, rfl, ha⟩ := hrel
    by_cases hlt : k < n
    · obtain ⟨b, off, x, rfl, hb, hx, hc⟩ := h.2.int_at (k := k) (by have := hlen.out; omega)
      have HL0 := l00In_n x 0 1000000 w
      by_cases h1 : 0 ≤ x ∧ x ≤ 1000000
      · have HS := Lib.hid (mtake_succ ha.out hx h1)
        rw [decide_eq_true h1] at HL0
        have HL := Lib.hid HL0
        clear hx HL0 h1
        go_wp2_with fail
        refine HL.out.mono ?_
        rintro e9 w9 ⟨rfl, rfl⟩
        go_wp2_with fail
        go_round
        case rel => exact ⟨k + 1, by omega, by go_num, HS.out⟩
        case measure => simp [intOf]; omega
      · have HN := Lib.hid (mulsB_no hx h1)
        rw [decide_eq_false h1] at HL0
        have HL := Lib.hid HL0
        clear hx HL0 h1
        go_wp2_with fail
        refine HL.out.mono ?_
        rintro e9 w9 ⟨rfl, rfl⟩
        go_wp2_with fail
        go_ret
        exact ⟨ret_bool HN.out.symm, rfl⟩
    · have hkn : k = n := by omega
      subst hkn
      have HY := Lib.hid (mulsB_yes ha.out hlen.out)
      go_wp2_with fail
      go_ret
      exact ⟨ret_bool HY.out.symm, rfl⟩

set_option maxRecDepth 100000 in
set_option maxHeartbeats 4000000 in
theorem l05Node_c (x : N5) (b o : Nat) (B : Nat) (w : World) (h : N5At w B b o x) (hx : x.tot ≤ 1048576) :
    Calls Tryd.prog 78 #[.pointer (some ⟨b, o, none⟩)] w fun e w' => e = .returned (.bool (nodeB x)) ∧ w = w' := by
  obtain ⟨A0, n0, c0, A1, n1, c1, q0, q1, q2, q3, q4, k0, k1⟩ := h
  unfold N5.tot at hx
  rw [k0.1, k1.1] at hx
  obtain ⟨k, f, ⟨tc, tz⟩, ms⟩ := x
  have hm1 := k1.1
  have hx : n0 + n1 ≤ 1048576 := hx
  have HZ0 := l05Zero_n b (o + 2) tc A0 n0 c0 B tz w q2 q3 k0
  have HM0 := l05Multipliers_c A1 n1 c1 B ms w k1 (by omega)
  have HI0 := l02Is_c b (o + 2) tc A0 n0 c0 B tz w q2 q3 k0.2 k0.1 (by omega)
  have HR0 := l00In_n f 0 19 w
  have hk1 : ms.length = n1 := hm1
  obtain ⟨zb, HZB⟩ : ∃ z, Hid (zerT (tc, tz) = z) := ⟨_, rfl⟩
  obtain ⟨mb, HMB⟩ : ∃ z, Hid (mulsB ms = z) := ⟨_, rfl⟩
  obtain ⟨ib, HIB⟩ : ∃ z, Hid (tmB (tc, tz) = z) := ⟨_, rfl⟩
  obtain ⟨fb, HFB⟩ : ∃ z, Hid (decide (0 ≤ f ∧ f ≤ 19) = z) := ⟨_, rfl⟩
  rw [HZB.out] at HZ0
  rw [HMB.out] at HM0
  rw [HIB.out] at HI0
  rw [HFB.out] at HR0
  have HZ := Lib.hid HZ0
  have HM := Lib.hid HM0
  have HI := Lib.hid HI0
  have HR := Lib.hid HR0
  by_cases e1 : k = 1
  · subst e1
    have HV : Hid (nodeB ⟨1, f, (tc, tz), ms⟩ = ((f == 0) && (zb && mb))) := by show _ = _; unfold nodeB; rw [← HZB.out, ← HMB.out]; rfl
    rw [HV.out]
    clear HV HZB HMB HIB HFB k0 k1 hm1 hk1 HZ0 HM0 HI0 HR0 HI HR hx
    by_cases f0 : f = 0
    · have r0 : (f == 0) = true := by simpa using f0
      rw [r0]
      go_enter Tryd.func78, Tryd.ntmps78
      go_wp2_with fail
      refine HZ.out.mono ?_
      rintro e9 w9 ⟨rfl, rfl⟩
      cases zb
      · go_wp2_with fail
        go_ret
        exact ⟨rfl, rfl⟩
      · go_wp2_with fail
        refine HM.out.mono ?_
        rintro e9 w9 ⟨rfl, rfl⟩
        go_wp2_with fail
        go_ret
        exact ⟨ret_bool (by simp), rfl⟩
    · have r0 : (f == 0) = false := by simpa using f0
      rw [r0]
      go_enter Tryd.func78, Tryd.ntmps78
      go_wp2_with fail
      go_ret
      exact ⟨rfl, rfl⟩
  · have s1 : (k == 1) = false := by simpa using e1
    by_cases e2 : k = 2
    · subst e2
      have HV : Hid (nodeB ⟨2, f, (tc, tz), ms⟩ = ((f == 0) && (ib && decide (n1 = 0)))) := by show _ = _; unfold nodeB; rw [← HIB.out, ← hk1]; rfl
      rw [HV.out]
      clear HV HZB HMB HIB HFB k0 k1 hm1 hk1 HZ0 HM0 HI0 HR0 HZ HM HR hx
      by_cases f0 : f = 0
      · have r0 : (f == 0) = true := by simpa using f0
        rw [r0]
        go_enter Tryd.func78, Tryd.ntmps78
        go_wp2_with fail
        refine HI.out.mono ?_
        rintro e9 w9 ⟨rfl, rfl⟩
        cases ib
        · go_wp2_with fail
          go_ret
          exact ⟨rfl, rfl⟩
        · go_wp2_with fail
          go_ret
          exact ⟨ret_bool (by rw [Bool.true_and, Bool.true_and, Bool.eq_iff_iff]; simp), rfl⟩
      · have r0 : (f == 0) = false := by simpa using f0
        rw [r0]
        go_enter Tryd.func78, Tryd.ntmps78
        go_wp2_with fail
        go_ret
        exact ⟨rfl, rfl⟩
    · have s2 : (k == 2) = false := by simpa using e2
      by_cases e3 : k = 3
      · subst e3
        have HV : Hid (nodeB ⟨3, f, (tc, tz), ms⟩ = (fb && (zb && decide (n1 = 0)))) := by show _ = _; unfold nodeB; rw [← HFB.out, ← HZB.out, ← hk1]; rfl
        rw [HV.out]
        clear HV HZB HMB HIB HFB k0 k1 hm1 hk1 HZ0 HM0 HI0 HR0 HI HM hx
        go_enter Tryd.func78, Tryd.ntmps78
        go_wp2_with fail
        refine HR.out.mono ?_
        rintro e9 w9 ⟨rfl, rfl⟩
        cases fb
        · go_wp2_with fail
          go_ret
          exact ⟨rfl, rfl⟩
        · go_wp2_with fail
          refine HZ.out.mono ?_
          rintro e9 w9 ⟨rfl, rfl⟩
          cases zb
          · go_wp2_with fail
            go_ret
            exact ⟨rfl, rfl⟩
          · go_wp2_with fail
            go_ret
            exact ⟨ret_bool (by rw [Bool.true_and, Bool.true_and, Bool.eq_iff_iff]; simp), rfl⟩
      · have s3 : (k == 3) = false := by simpa using e3
        have HV : nodeB ⟨k, f, (tc, tz), ms⟩ = false := by unfold nodeB; rw [if_neg e1, if_neg e2, if_neg e3]
        rw [HV]
        clear HV HZB HMB HIB HFB k0 k1 hm1 hk1 HZ0 HM0 HI0 HR0 HI HM HZ HR hx e1 e2 e3
        go_enter Tryd.func78, Tryd.ntmps78
        go_wp2_with fail
        go_ret
        exact ⟨rfl, rfl⟩

set_option maxRecDepth 100000 in
set_option maxHeartbeats 1000000 in
theorem l05End_c (A : Option Addr) (n c B : Nat) (xs : List N5) (k0 : Nat) (w : World) (h : InN5 w B A n xs) (hn : n ≤ 1048576) (hk0 : k0 ≤ n) :
    Calls Tryd.prog 52 #[.slice A n c, .int .i64 (k0 : Int)] w fun e w' => e = .returned (.int .i64 (endN 1 (xs.drop k0) k0)) ∧ w = w' := by
  have hlen := Lib.hid h.1
  go_enter Tryd.func52, Tryd.ntmps52
  go_wp2_with fail
  go_loop [1, 5] (fun i d => ∃ j m : Nat, j ≤ n ∧ m ≤ 2 * j + 1 ∧ i = .int .i64 j ∧ d = .int .i64 m ∧ Hid (endN m (xs.drop j) j = endN 1 (xs.drop k0) k0)) (fun i _ => n - (intOf i).toNat)
  case atStart => exact ⟨k0, 1, hk0, by omega, rfl, rfl, rfl⟩
  case round =>
    obtain ⟨j, m, hj, hm, rfl, rfl, he⟩ := hrel
    rcases Nat.eq_zero_or_pos m with rfl | hm0
    · have HV : Hid (endN 1 (xs.drop k0) k0 = (j : Int)) := he.out.symm.trans (endN_done _ _)
      go_wp2_with fail
      go_ret
      exact ⟨by rw [HV.out]; rfl, rfl⟩
    · by_cases hlt : j < n
      · obtain ⟨b, off, x, rfl, hb, ht, A0, n0, c0, A1, n1, c1, q0, q1, q2, q3, q4, g0, g1⟩ := h.at_ hlt
        have HV : Hid (endN (m - 1 + forks x.k) (xs.drop (j + 1)) (j + 1) = endN 1 (xs.drop k0) k0) := (endN_next hm0 ht).symm.trans he.out
        have r1 : ((j : Int) == (n : Int)) = false := by simp; omega
        have r2 : (0 : Int) < (m : Int) := by omega
        clear ht g0 g1 q1 q2 q3 q4 he
        obtain ⟨kx, fx, tx, mx⟩ := x
        have q0 : w.cell? ⟨b, off + j * 5, none⟩ = some (.int .i64 kx) := q0
        have HV : Hid (endN (m - 1 + forks kx) (xs.drop (j + 1)) (j + 1) = endN 1 (xs.drop k0) k0) := HV
        by_cases e1 : kx = 1
        · subst e1
          go_wp2_with fail
          go_round
          case rel => exact ⟨j + 1, m - 1, by omega, by omega, by go_num, by go_num, HV⟩
          case measure => simp [intOf]; omega
        · have s1 : (kx == 1) = false := by simpa using e1
          by_cases e2 : kx = 2
          · subst e2
            go_wp2_with fail
            go_round
            case rel => exact ⟨j + 1, m - 1 + 2, by omega, by omega, by go_num, by go_num, HV⟩
            case measure => simp [intOf]; omega
          · have s2 : (kx == 2) = false := by simpa using e2
            have hf : forks kx = 1 := by unfold forks; rw [if_neg e1, if_neg e2]
            rw [hf] at HV
            clear hf e1 e2
            go_wp2_with fail
            go_round
            case rel => exact ⟨j + 1, m - 1 + 1, by omega, by omega, by go_num, by go_num, HV⟩
            case measure => simp [intOf]; omega
      · have HV : Hid (endN 1 (xs.drop k0) k0 = -1) := he.out.symm.trans (endN_out hm0 (by rw [hlen.out]; omega))
        have r1 : ((j : Int) == (n : Int)) = true := by simp; omega
        have r2 : (0 : Int) < (m : Int) := by omega
        go_wp2_with fail
        go_ret
        exact ⟨by rw [HV.out]; rfl, rfl⟩

set_option maxRecDepth 100000 in
set_option maxHeartbeats 2000000 in
theorem l05Is_c (A : Option Addr) (n c B : Nat) (xs : List N5) (w : World) (h : InN5 w B A n xs) (hn : n ≤ 1048576) (he : totN5 xs ≤ 1048576) :
    Calls Tryd.prog 46 #[.slice A n c] w fun e w' => e = .returned (.bool (proofB xs)) ∧ w = w' := by
  have hlen := Lib.hid h.1
  have HL0 := l00In_n (n : Int) 1 60 w
  by_cases hb : 1 ≤ n ∧ n ≤ 60
  · rw [decide_eq_true (by omega)] at HL0
    have HL := Lib.hid HL0
    have HE : Hid (Calls Tryd.prog 52 #[.slice A n c, .int .i64 0] w fun e w' => e = .returned (.int .i64 (endN 1 xs 0)) ∧ w = w') := l05End_c A n c B xs 0 w h hn (Nat.zero_le _)
    clear HL0
    go_enter Tryd.func46, Tryd.ntmps46
    go_wp2_with fail
    refine HL.out.mono ?_
    rintro e9 w9 ⟨rfl, rfl⟩
    go_wp2_with fail
    clear HL
    go_loop [3] (fun i => ∃ j : Nat, j ≤ n ∧ i = .int .i64 j ∧ Hid (∀ t ∈ xs.take j, nodeB t = true)) (fun i => n - (intOf i).toNat)
    case atStart => exact ⟨0, Nat.zero_le _, rfl, by intro z hz; simp at hz⟩
    case round =>
      obtain ⟨j, hj, rfl, ha⟩ := hrel
      by_cases hlt : j < n
      · obtain ⟨b, off, x, rfl, hbb, hx, hst⟩ := h.at_ hlt
        have hmx := totN5_mem (List.mem_of_getElem? hx)
        have HI := Lib.hid (l05Node_c x b (off + j * 5) B w hst (by omega))
        have HX := Lib.hid hx
        clear hst hx
        cases hv : nodeB x with
        | false =>
          have HV := Lib.hid (proofB_elem HX.out hv)
          rw [hv] at HI
          clear hv HE
          go_wp2_with fail
          refine HI.out.mono ?_
          rintro e9 w9 ⟨rfl, rfl⟩
          go_wp2_with fail
          go_ret
          exact ⟨ret_bool HV.out.symm, rfl⟩
        | true =>
          have HV := Lib.hid (nall_succ ha.out HX.out hv)
          rw [hv] at HI
          clear hv HE
          go_wp2_with fail
          refine HI.out.mono ?_
          rintro e9 w9 ⟨rfl, rfl⟩
          go_wp2_with fail
          go_round
          case rel => exact ⟨j + 1, by omega, by go_num, HV⟩
          case measure => simp [intOf]; omega
      · have hall : ∀ t ∈ xs, nodeB t = true := by
          intro t ht
          exact ha.out t (by rw [List.take_of_length_le (by rw [hlen.out]; omega)]; exact ht)
        have HV := Lib.hid (proofB_all (by rw [hlen.out]; exact hb) hall)
        rw [hlen.out] at HV
        clear hall
        generalize endN 1 xs 0 = E at HV HE
        go_wp2_with fail
        refine HE.out.mono ?_
        rintro e9 w9 ⟨rfl, rfl⟩
        go_wp2_with fail
        go_ret
        exact ⟨ret_bool (by rw [HV.out, Bool.eq_iff_iff]; simp), rfl⟩
  · have HV := Lib.hid (proofB_size (xs := xs) (by rw [hlen.out]; exact hb))
    rw [decide_eq_false (by omega)] at HL0
    have HL := Lib.hid HL0
    clear HL0
    go_enter Tryd.func46, Tryd.ntmps46
    go_wp2_with fail
    refine HL.out.mono ?_
    rintro e9 w9 ⟨rfl, rfl⟩
    go_wp2_with fail
    go_ret
    exact ⟨ret_bool HV.out.symm, rfl⟩

set_option maxRecDepth 100000 in
theorem specIsProof_c (A : Option Addr) (n c B : Nat) (xs : List N5) (w : World) (h : InN5 w B A n xs) (hn : n ≤ 1048576) (he : totN5 xs ≤ 1048576) :
    Calls Tryd.prog 11 #[.slice A n c] w fun e w' => e = .returned (.bool (proofB xs)) ∧ w = w' := by
  have HI := Lib.hid (l05Is_c A n c B xs w h hn he)
  go_enter Tryd.func11, Tryd.ntmps11
  go_wp2_with fail
  refine HI.out.mono ?_
  rintro e9 w9 ⟨rfl, rfl⟩
  go_wp2_with fail
  go_ret
  exact ⟨rfl, rfl⟩
end Go.Proofs.YtejgpooghengmaaDoor
