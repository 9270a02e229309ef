/-
  GetText: what the program's and the model's give. Conditions: strings of at most 2^20 bytes; errors.errorType holds the handle of the type error.
-/
import Derived.Test.YtidjniaamphhnabDoorReadN
import Derived.Test.YtidjniaamphhnabDoorClone
namespace Go.Proofs.YtidjniaamphhnabDoor
open Go.RowKit

set_option maxRecDepth 100000 in
set_option maxHeartbeats 1000000 in
theorem size_c (r : Nat) (s : ByteArray) (p l : Nat) (w : World) (h : Rd w r s p true) (hs : s.size ≤ 140737488355328) (hp : p ≤ s.size) (_ : l ≤ 1000000) :
    Calls Tryd.prog 31 #[.pointer (some ⟨r, 0, none⟩), .int .i64 l] w fun e w' => w.grownBy w' (some r) ∧
      ((∃ n q : Nat, getN s p = some ((n : Int), q) ∧ n ≤ l ∧ e = .returned (.int .i64 n) ∧ Rd w' r s q true) ∨ ((∀ n q : Nat, getN s p = some ((n : Int), q) → ¬ n ≤ l) ∧ e = .returned (.int .i64 0) ∧ Er w' r)) := by
  have H := Lib.hid h
  clear h
  go_enter Tryd.func31, Tryd.ntmps31
  go_wp2_with fail
  refine (number_c r s p _ H.out hs hp).mono ?_
  rintro e w1 ⟨hg1, ⟨n, q, hn, rfl, hr⟩ | ⟨hn, rfl, q, hr⟩⟩
  · have HR := Lib.hid hr
    have HN := Lib.hid hn
    clear hr hn
    by_cases h0 : 0 ≤ n
    · obtain ⟨k, rfl⟩ := Int.eq_ofNat_of_zero_le h0
      by_cases h1 : (k : Int) ≤ (l : Int)
      · go_wp2_with (first | (go_at_call 28; go_in))
        go_ret
        exact ⟨hg1, .inl ⟨k, q, HN.out, by omega, rfl, HR.out⟩⟩
      · have hd : decide ((k : Int) ≤ (l : Int)) = false := by simp; omega
        have hd2 : decide (k ≤ l) = false := by simp; omega
        go_wp2_with (first | (go_at_call 28; go_in))
        refine (fail_c r s _ q true _ HR.out).mono ?_
        rintro e w2 ⟨rfl, hr2, hg2⟩
        have HR2 := Lib.hid hr2.er
        clear hr2
        go_wp2_with fail
        go_ret
        refine ⟨only_trans hg1 hg2, .inr ⟨fun n' q' hn' => ?_, rfl, HR2.out⟩⟩
        have e := HN.out.symm.trans hn'
        injection e with e
        injection e with e1 e2
        omega
    · go_wp2_with (first | (go_at_call 28; go_in))
      refine (fail_c r s _ q true _ HR.out).mono ?_
      rintro e w2 ⟨rfl, hr2, hg2⟩
      have HR2 := Lib.hid hr2.er
      clear hr2
      go_wp2_with fail
      go_ret
      refine ⟨only_trans hg1 hg2, .inr ⟨fun n' q' hn' => ?_, rfl, HR2.out⟩⟩
      have e := HN.out.symm.trans hn'
      injection e with e
      injection e with e1 e2
      omega
  · have HR := Lib.hid hr.er
    have HN := Lib.hid hn
    clear hr hn
    go_wp2_with (first | (go_at_call 28; go_in))
    go_ret
    refine ⟨hg1, .inr ⟨fun n' q' hn' => ?_, rfl, HR.out⟩⟩
    rw [HN.out] at hn'
    cases hn'

set_option maxRecDepth 100000 in
set_option maxHeartbeats 1000000 in
theorem size_no (r l : Nat) (w : World) (h : Er w r) :
    Calls Tryd.prog 31 #[.pointer (some ⟨r, 0, none⟩), .int .i64 l] w fun e w' => e = .returned (.int .i64 0) ∧ w = w' := by
  have H := Lib.hid h
  clear h
  go_enter Tryd.func31, Tryd.ntmps31
  go_wp2_with fail
  refine (number_no r _ H.out).mono ?_
  rintro e w' ⟨rfl, rfl⟩
  go_wp2_with (first | (go_at_call 28; go_in))
  go_ret
  exact ⟨rfl, rfl⟩

set_option maxRecDepth 100000 in
set_option maxHeartbeats 1000000 in
/-- bytes of a reader that has had an error: nothing. -/
theorem bytes_er (r : Nat) (n : Int) (w : World) (h : Er w r) :
    Calls Tryd.prog 30 #[.pointer (some ⟨r, 0, none⟩), .int .i64 n] w fun e w' => e = .returned (.string ⟨#[]⟩) ∧ w = w' := by
  obtain ⟨s, p, q, hr⟩ := h
  obtain ⟨h0, h1, h2, f1, f2⟩ := rd_cells hr
  clear hr
  go_enter Tryd.func30, Tryd.ntmps30
  go_wp2
  go_ret
  exact ⟨rfl, rfl⟩

/-- The text whose code begins at place p, and the place behind it. -/
def getT (s : ByteArray) (p : Nat) : Option (ByteArray × Nat) := match getN s p with
  | some (n, q) => if 0 ≤ n ∧ n ≤ 40000 ∧ (q : Int) + n ≤ s.size then some (s.extract q (q + n.toNat), q + n.toNat) else none
  | none => none
theorem getT_yes {s : ByteArray} {p n q : Nat} (h : getN s p = some ((n : Int), q)) (h1 : n ≤ 40000) (h2 : q + n ≤ s.size) : getT s p = some (s.extract q (q + n), q + n) := by
  unfold getT
  rw [h]
  simp only [Int.toNat_natCast]
  rw [if_pos ⟨by omega, by omega, by omega⟩]
theorem getT_far {s : ByteArray} {p n q : Nat} (h : getN s p = some ((n : Int), q)) (h2 : ¬ q + n ≤ s.size) : getT s p = none := by
  unfold getT
  rw [h]
  simp only [Int.toNat_natCast]
  rw [if_neg (by omega)]
theorem getT_no {s : ByteArray} {p : Nat} (h : ∀ n q : Nat, getN s p = some ((n : Int), q) → ¬ n ≤ 40000) : getT s p = none := by
  unfold getT
  cases hg : getN s p with
  | none => rfl
  | some x =>
    obtain ⟨n, q⟩ := x
    simp only []
    rw [if_neg]
    rintro ⟨h0, h1, _⟩
    obtain ⟨k, rfl⟩ := Int.eq_ofNat_of_zero_le h0
    exact h k q hg (by omega)
def gtR (o : Option (ByteArray × Nat)) : Ending := match o with
  | some (t, q) => .returned (.tuple #[.string t, .int .i64 q, .bool true])
  | none => .returned (.tuple #[.string ⟨#[]⟩, .int .i64 0, .bool false])

theorem gt_ret {a t : ByteArray} {b : Int} {q : Nat} (h : a = t) (h' : b = (q : Int)) : Ending.returned (.tuple #[.string a, .int .i64 b, .bool true]) = gtR (some (t, q)) := by rw [h, h']; rfl

set_option maxRecDepth 100000 in
set_option maxHeartbeats 1000000 in
theorem sizedText_c (r : Nat) (s : ByteArray) (p : Nat) (w : World) (h : Rd w r s p true) (hs : s.size ≤ 140737488355328) (hp : p ≤ s.size) :
    Calls Tryd.prog 18 #[.pointer (some ⟨r, 0, none⟩)] w fun e w' => w.grownBy w' (some r) ∧
      ((∃ t q, getT s p = some (t, q) ∧ e = .returned (.string t) ∧ t.size ≤ 40000 ∧ Rd w' r s q true) ∨ (getT s p = none ∧ e = .returned (.string ⟨#[]⟩) ∧ Er w' r)) := by
  have H := Lib.hid h
  clear h
  go_enter Tryd.func18, Tryd.ntmps18
  go_wp2_with fail
  refine (size_c r s p 40000 _ H.out hs hp (by omega)).mono ?_
  rintro e w1 ⟨hg1, ⟨n, q, hn, hn2, rfl, hr⟩ | ⟨hn, rfl, hr⟩⟩
  · have HR := Lib.hid hr
    have HN := Lib.hid hn
    have hq := getN_le hn
    clear hr hn
    go_wp2_with fail
    refine (bytes_c r s q n _ HR.out hs hq.2.1 hn2).mono ?_
    rintro e w2 ⟨hg2, ⟨hfit, rfl, hr2⟩ | ⟨hfit, rfl, hr2⟩⟩
    · have HT := Lib.hid (getT_yes HN.out hn2 hfit)
      have HR2 := Lib.hid hr2
      have hts : (s.extract q (q + n)).size ≤ 40000 := by rw [ByteArray.size_extract]; omega
      clear hr2
      generalize s.extract q (q + n) = t at *
      go_wp2_with fail
      go_ret
      exact ⟨only_trans hg1 hg2, .inl ⟨t, _, HT.out, rfl, hts, HR2.out⟩⟩
    · have HT := Lib.hid (getT_far HN.out hfit)
      have HR2 := Lib.hid hr2.er
      clear hr2
      go_wp2_with fail
      go_ret
      exact ⟨only_trans hg1 hg2, .inr ⟨HT.out, rfl, HR2.out⟩⟩
  · have HT := Lib.hid (getT_no hn)
    have HR := Lib.hid hr
    clear hr hn
    go_wp2_with fail
    refine (bytes_er r 0 _ HR.out).mono ?_
    rintro e w' ⟨rfl, rfl⟩
    go_wp2_with fail
    go_ret
    exact ⟨hg1, .inr ⟨HT.out, rfl, HR.out⟩⟩

set_option maxRecDepth 100000 in
set_option maxHeartbeats 1000000 in
theorem sizedText_no (r : Nat) (w : World) (h : Er w r) :
    Calls Tryd.prog 18 #[.pointer (some ⟨r, 0, none⟩)] w fun e w' => e = .returned (.string ⟨#[]⟩) ∧ w = w' := by
  have H := Lib.hid h
  clear h
  go_enter Tryd.func18, Tryd.ntmps18
  go_wp2_with fail
  refine (size_no r 40000 _ H.out).mono ?_
  rintro e w' ⟨rfl, rfl⟩
  go_wp2_with fail
  refine (bytes_er r 0 _ H.out).mono ?_
  rintro e w' ⟨rfl, rfl⟩
  go_wp2_with fail
  go_ret
  exact ⟨rfl, rfl⟩

set_option maxRecDepth 100000 in
set_option maxHeartbeats 1000000 in
theorem getText_yes (s : ByteArray) (p : Nat) (w : World) (hp : p ≤ s.size) (hs : s.size ≤ 140737488355328) (hd : Hd w) :
    Calls Tryd.prog 7 #[.string s, .int .i64 p] w fun e w' => e = gtR (getT s p) ∧ Below w.heap.size w w' := by
  have HD := Lib.hid hd
  clear hd
  go_enter Tryd.func7, Tryd.ntmps7
  go_wp2_with fail
  refine (readerAt_yes s p _ hp hs).mono ?_
  rintro e w1 ⟨rfl, hr1, hb1⟩
  have HR1 := Lib.hid hr1
  have HD1 := Lib.hid (HD.out.below hb1 HD.out.lt)
  have hpos := HD.out.lt
  clear hr1
  go_wp2_with fail
  refine (sizedText_c w.heap.size s p _ HR1.out hs hp).mono ?_
  rintro e w2 ⟨hg2, ⟨t, q, hn, rfl, hts, hr2⟩ | ⟨hn, rfl, hr2⟩⟩
  · have HR2 := Lib.hid hr2
    have HN := Lib.hid hn
    have hb2 : Below w.heap.size w w2 := hb1.trans (only_below hg2 (Nat.le_refl _) hb1.size)
    clear hr2 hn hg2
    go_wp2_with fail
    refine (end_yes w.heap.size s q _ HR2.out).mono ?_
    rintro e w3 ⟨rfl, hb3⟩
    go_wp2_with fail
    refine (clone_c t _ (by omega)).mono ?_
    rintro e w4 ⟨rfl, hb4⟩
    go_wp2_with fail
    go_ret3
    exact ⟨by rw [HN.out]; rfl, (hb2.trans (hb3.mono hb2.size)).trans (hb4.mono (Nat.le_trans hb2.size hb3.size))⟩
  · have HR2 := Lib.hid hr2
    have HN := Lib.hid hn
    have HD2 := Lib.hid (HD1.out.only hg2 hpos)
    have hb2 : Below w.heap.size w w2 := hb1.trans (only_below hg2 (Nat.le_refl _) hb1.size)
    clear hr2 hn hg2
    go_wp2_with fail
    refine (end_no w.heap.size _ HR2.out HD2.out).mono ?_
    rintro e w3 ⟨rfl, hb3⟩
    go_wp2_with fail
    go_ret3
    exact ⟨by rw [HN.out]; rfl, hb2.trans (hb3.mono hb2.size)⟩

set_option maxRecDepth 100000 in
set_option maxHeartbeats 1000000 in
theorem getText_no (s : ByteArray) (p : Int) (w : World) (hp : ¬ (0 ≤ p ∧ p ≤ s.size)) (hs : s.size ≤ 140737488355328) (hd : Hd w) :
    Calls Tryd.prog 7 #[.string s, .int .i64 p] w fun e w' => e = gtR none ∧ Below w.heap.size w w' := by
  have HD := Lib.hid hd
  have HP := Lib.hid hp
  clear hd hp
  go_enter Tryd.func7, Tryd.ntmps7
  go_wp2_with fail
  refine (readerAt_no s p _ HP.out hs).mono ?_
  rintro e w1 ⟨rfl, hr1, hb1⟩
  have HR1 := Lib.hid hr1
  have HD1 := Lib.hid (HD.out.below hb1 HD.out.lt)
  clear hr1
  go_wp2_with fail
  refine (sizedText_no w.heap.size _ HR1.out).mono ?_
  rintro e w' ⟨rfl, rfl⟩
  go_wp2_with fail
  refine (end_no w.heap.size _ HR1.out HD1.out).mono ?_
  rintro e w3 ⟨rfl, hb3⟩
  go_wp2_with fail
  go_ret3
  exact ⟨rfl, hb1.trans (hb3.mono hb1.size)⟩

set_option maxRecDepth 100000 in
set_option maxHeartbeats 1000000 in
/-- The model's l01GetText. -/
theorem l01GetText_c (s : ByteArray) (p : Nat) (w : World) (hp : p ≤ s.size) (hs : s.size ≤ 140737488355328) :
    Calls Tryd.prog 16 #[.string s, .int .i64 p] w fun e w' => e = gtR (getT s p) ∧ w = w' := by
  have HS := Lib.hid (fun w => l01Get_c s p w hp hs)
  cases hg : getN s p with
  | none =>
    have HT : Hid (getT s p = none) := getT_no (fun n q h => by rw [hg] at h; cases h)
    rw [hg] at HS
    simp only [gnR] at HS
    clear hg
    go_enter Tryd.func16, Tryd.ntmps16
    go_wp2_with (first | (go_at_call 27; refine (HS.out _).mono ?_; rintro e w' ⟨rfl, rfl⟩))
    go_ret3
    exact ⟨by rw [HT.out]; rfl, rfl⟩
  | some x =>
    obtain ⟨n, q⟩ := x
    have hq := getN_le hg
    rw [hg] at HS
    simp only [gnR] at HS
    by_cases h0 : 0 ≤ n
    · obtain ⟨k, rfl⟩ := Int.eq_ofNat_of_zero_le h0
      by_cases h1 : k ≤ 40000
      · have h1' : (k : Int) ≤ 40000 := by omega
        by_cases h2 : q + k ≤ s.size
        · have HT := Lib.hid (getT_yes hg h1 h2)
          have hd : decide ((s.size : Int) - (q : Int) < (k : Int)) = false := by simp; omega
          have hqk : ((q : Int) + (k : Int)).toNat = q + k := by omega
          have hqq := hq.2.1
          clear hg hq
          go_enter Tryd.func16, Tryd.ntmps16
          go_wp2_with (first | (go_at_call 27; refine (HS.out _).mono ?_; rintro e w' ⟨rfl, rfl⟩) | (go_at_call 26; go_in))
          go_ret3
          exact ⟨by rw [HT.out]; exact gt_ret rfl (by omega), rfl⟩
        · have HT := Lib.hid (getT_far hg h2)
          have hd : decide ((s.size : Int) - (q : Int) < (k : Int)) = true := by simp; omega
          have hqq := hq.2.1
          clear hg hq
          go_enter Tryd.func16, Tryd.ntmps16
          go_wp2_with (first | (go_at_call 27; refine (HS.out _).mono ?_; rintro e w' ⟨rfl, rfl⟩) | (go_at_call 26; go_in))
          go_ret3
          exact ⟨by rw [HT.out]; rfl, rfl⟩
      · have HT : Hid (getT s p = none) := getT_no (fun n' q' h => by
          rw [hg] at h
          injection h with h
          injection h with e1 e2
          omega)
        have h1' : ¬ (k : Int) ≤ 40000 := by omega
        clear hg hq
        go_enter Tryd.func16, Tryd.ntmps16
        go_wp2_with (first | (go_at_call 27; refine (HS.out _).mono ?_; rintro e w' ⟨rfl, rfl⟩) | (go_at_call 26; go_in))
        go_ret3
        exact ⟨by rw [HT.out]; rfl, rfl⟩
    · have HT : Hid (getT s p = none) := getT_no (fun n' q' h => by
        rw [hg] at h
        injection h with h
        injection h with e1 e2
        omega)
      clear hg hq
      go_enter Tryd.func16, Tryd.ntmps16
      go_wp2_with (first | (go_at_call 27; refine (HS.out _).mono ?_; rintro e w' ⟨rfl, rfl⟩) | (go_at_call 26; go_in))
      go_ret3
      exact ⟨by rw [HT.out]; rfl, rfl⟩

set_option maxRecDepth 100000 in
set_option maxHeartbeats 1000000 in
theorem specText_yes (s : ByteArray) (p : Nat) (w : World) (hp : p ≤ s.size) (hs : s.size ≤ 140737488355328) :
    Calls Tryd.prog 6 #[.string s, .int .i64 p] w fun e w' => e = gtR (getT s p) ∧ w = w' := by
  have HS := Lib.hid (fun w => l01GetText_c s p w hp hs)
  cases hg : getT s p with
  | none =>
    rw [hg] at HS
    simp only [gtR] at HS ⊢
    clear hg
    go_enter Tryd.func6, Tryd.ntmps6
    go_wp2_with (first | (go_at_call 15; go_in) | (go_at_call 26; go_in) | (go_at_call 16; refine (HS.out _).mono ?_; rintro e w' ⟨rfl, rfl⟩))
    go_ret3
    exact ⟨rfl, rfl⟩
  | some x =>
    obtain ⟨n, q⟩ := x
    rw [hg] at HS
    simp only [gtR] at HS ⊢
    clear hg
    go_enter Tryd.func6, Tryd.ntmps6
    go_wp2_with (first | (go_at_call 15; go_in) | (go_at_call 26; go_in) | (go_at_call 16; refine (HS.out _).mono ?_; rintro e w' ⟨rfl, rfl⟩))
    go_ret3
    exact ⟨rfl, rfl⟩
set_option maxRecDepth 100000 in
set_option maxHeartbeats 1000000 in
theorem specText_no (s : ByteArray) (p : Int) (w : World) (hp : ¬ (0 ≤ p ∧ p ≤ s.size)) :
    Calls Tryd.prog 6 #[.string s, .int .i64 p] w fun e w' => e = gtR none ∧ w = w' := by
  simp only [gtR]
  by_cases h0 : 0 ≤ p
  · have h1 : ¬ p ≤ s.size := fun h => hp ⟨h0, h⟩
    clear hp
    go_enter Tryd.func6, Tryd.ntmps6
    go_wp2
    go_ret3
    exact ⟨rfl, rfl⟩
  · clear hp
    go_enter Tryd.func6, Tryd.ntmps6
    go_wp2
    go_ret3
    exact ⟨rfl, rfl⟩
end Go.Proofs.YtidjniaamphhnabDoor
