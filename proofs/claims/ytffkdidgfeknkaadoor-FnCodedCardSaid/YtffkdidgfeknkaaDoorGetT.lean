/-
  GetText: what the program's and the model's give. Conditions: strings of at most 2^20 bytes; errors.errorType holds the handle of the type error.
-/
import Derived.Test.YtffkdidgfeknkaaDoorSize
import Derived.Test.YtffkdidgfeknkaaDoorClone
namespace Go.Proofs.YtffkdidgfeknkaaDoor
open Go.RowKit

set_option maxRecDepth 100000 in
set_option maxHeartbeats 1000000 in
/-- bytes of a reader that has had an error: nothing. -/
theorem bytes_er (r : Nat) (n : Int) (w : World) (h : Er w r) :
    Calls Tryd.prog 72 #[.pointer (some ⟨r, 0, none⟩), .int .i64 n] w fun e w' => e = .returned (.string ⟨#[]⟩) ∧ w = w' := by
  obtain ⟨s, p, q, hr⟩ := h
  obtain ⟨h0, h1, h2, f1, f2⟩ := rd_cells hr
  clear hr
  go_enter Tryd.func72, Tryd.ntmps72
  go_wp2
  go_ret
  exact ⟨rfl, rfl⟩

/-- The text whose code begins at place p, and the place behind it. -/
def getT (s : ByteArray) (p : Nat) : Option (ByteArray × Nat) := match getN s p with
  | some (n, q) => if 0 ≤ n ∧ n ≤ 40000 ∧ (q : Int) + n ≤ s.size then some (s.extract q (q + n.toNat), q + n.toNat) else none
  | none => none
theorem getT_yes {s : ByteArray} {p n q : Nat} (h : getN s p = some ((n : Int), q)) (h1 : n ≤ 40000) (h2 : q + n ≤ s.size) : getT s p = some (s.extract q (q + n), q + n) := by
  unfold getT
  rw [h]
  simp only [Int.toNat_natCast]
  rw [if_pos ⟨by omega, by omega, by omega⟩]
theorem getT_far {s : ByteArray} {p n q : Nat} (h : getN s p = some ((n : Int), q)) (h2 : ¬ q + n ≤ s.size) : getT s p = none := by
  unfold getT
  rw [h]
  simp only [Int.toNat_natCast]
  rw [if_neg (by omega)]
theorem getT_no {s : ByteArray} {p : Nat} (h : ∀ n q : Nat, getN s p = some ((n : Int), q) → ¬ n ≤ 40000) : getT s p = none := by
  unfold getT
  cases hg : getN s p with
  | none => rfl
  | some x =>
    obtain ⟨n, q⟩ := x
    simp only []
    rw [if_neg]
    rintro ⟨h0, h1, _⟩
    obtain ⟨k, rfl⟩ := Int.eq_ofNat_of_zero_le h0
    exact h k q hg (by omega)
def gtR (o : Option (ByteArray × Nat)) : Ending := match o with
  | some (t, q) => .returned (.tuple #[.string t, .int .i64 q, .bool true])
  | none => .returned (.tuple #[.string ⟨#[]⟩, .int .i64 0, .bool false])

theorem gt_ret {a t : ByteArray} {b : Int} {q : Nat} (h : a = t) (h' : b = (q : Int)) : Ending.returned (.tuple #[.string a, .int .i64 b, .bool true]) = gtR (some (t, q)) := by rw [h, h']; rfl

set_option maxRecDepth 100000 in
set_option maxHeartbeats 1000000 in
theorem sizedText_c (r : Nat) (s : ByteArray) (p : Nat) (w : World) (h : Rd w r s p true) (hs : s.size ≤ 140737488355328) (hp : p ≤ s.size) :
    Calls Tryd.prog 39 #[.pointer (some ⟨r, 0, none⟩)] w fun e w' => w.grownBy w' (some r) ∧
      ((∃ t q, getT s p = some (t, q) ∧ e = .returned (.string t) ∧ t.size ≤ 40000 ∧ Rd w' r s q true) ∨ (getT s p = none ∧ e = .returned (.string ⟨#[]⟩) ∧ Er w' r)) := by
  have H := Lib.hid h
  clear h
  go_enter Tryd.func39, Tryd.ntmps39
  go_wp2_with fail
  refine (size_c r s p 40000 _ H.out hs hp (by omega)).mono ?_
  rintro e w1 ⟨hg1, ⟨n, q, hn, hn2, rfl, hr⟩ | ⟨hn, rfl, hr⟩⟩
  · have HR := Lib.hid hr
    have HN := Lib.hid hn
    have hq := getN_le hn
    clear hr hn
    go_wp2_with fail
    refine (bytes_c r s q n _ HR.out hs hq.2.1 hn2).mono ?_
    rintro e w2 ⟨hg2, ⟨hfit, rfl, hr2⟩ | ⟨hfit, rfl, hr2⟩⟩
    · have HT := Lib.hid (getT_yes HN.out hn2 hfit)
      have HR2 := Lib.hid hr2
      have hts : (s.extract q (q + n)).size ≤ 40000 := by rw [ByteArray.size_extract]; omega
      clear hr2
      generalize s.extract q (q + n) = t at *
      go_wp2_with fail
      go_ret
      exact ⟨only_trans hg1 hg2, .inl ⟨t, _, HT.out, rfl, hts, HR2.out⟩⟩
    · have HT := Lib.hid (getT_far HN.out hfit)
      have HR2 := Lib.hid hr2.er
      clear hr2
      go_wp2_with fail
      go_ret
      exact ⟨only_trans hg1 hg2, .inr ⟨HT.out, rfl, HR2.out⟩⟩
  · have HT := Lib.hid (getT_no hn)
    have HR := Lib.hid hr
    clear hr hn
    go_wp2_with fail
    refine (bytes_er r 0 _ HR.out).mono ?_
    rintro e w' ⟨rfl, rfl⟩
    go_wp2_with fail
    go_ret
    exact ⟨hg1, .inr ⟨HT.out, rfl, HR.out⟩⟩

set_option maxRecDepth 100000 in
set_option maxHeartbeats 1000000 in
theorem sizedText_no (r : Nat) (w : World) (h : Er w r) :
    Calls Tryd.prog 39 #[.pointer (some ⟨r, 0, none⟩)] w fun e w' => e = .returned (.string ⟨#[]⟩) ∧ w = w' := by
  have H := Lib.hid h
  clear h
  go_enter Tryd.func39, Tryd.ntmps39
  go_wp2_with fail
  refine (size_no r 40000 _ H.out).mono ?_
  rintro e w' ⟨rfl, rfl⟩
  go_wp2_with fail
  refine (bytes_er r 0 _ H.out).mono ?_
  rintro e w' ⟨rfl, rfl⟩
  go_wp2_with fail
  go_ret
  exact ⟨rfl, rfl⟩

set_option maxRecDepth 100000 in
set_option maxHeartbeats 1000000 in
theorem getText_yes (s : ByteArray) (p : Nat) (w : World) (hp : p ≤ s.size) (hs : s.size ≤ 140737488355328) (hd : Hd w) :
    Calls Tryd.prog 12 #[.string s, .int .i64 p] w fun e w' => e = gtR (getT s p) ∧ Below w.heap.size w w' := by
  have HD := Lib.hid hd
  clear hd
  go_enter Tryd.func12, Tryd.ntmps12
  go_wp2_with fail
  refine (readerAt_yes s p _ hp hs).mono ?_
  rintro e w1 ⟨rfl, hr1, hb1⟩
  have HR1 := Lib.hid hr1
  have HD1 := Lib.hid (HD.out.below hb1 HD.out.lt)
  have hpos := HD.out.lt
  clear hr1
  go_wp2_with fail
  refine (sizedText_c w.heap.size s p _ HR1.out hs hp).mono ?_
  rintro e w2 ⟨hg2, ⟨t, q, hn, rfl, hts, hr2⟩ | ⟨hn, rfl, hr2⟩⟩
  · have HR2 := Lib.hid hr2
    have HN := Lib.hid hn
    have hb2 : Below w.heap.size w w2 := hb1.trans (only_below hg2 (Nat.le_refl _) hb1.size)
    clear hr2 hn hg2
    go_wp2_with fail
    refine (end_yes w.heap.size s q _ HR2.out).mono ?_
    rintro e w3 ⟨rfl, hb3⟩
    go_wp2_with fail
    refine (clone_c t _ (by omega)).mono ?_
    rintro e w4 ⟨rfl, hb4⟩
    go_wp2_with fail
    go_ret3
    exact ⟨by rw [HN.out]; rfl, (hb2.trans (hb3.mono hb2.size)).trans (hb4.mono (Nat.le_trans hb2.size hb3.size))⟩
  · have HR2 := Lib.hid hr2
    have HN := Lib.hid hn
    have HD2 := Lib.hid (HD1.out.only hg2 hpos)
    have hb2 : Below w.heap.size w w2 := hb1.trans (only_below hg2 (Nat.le_refl _) hb1.size)
    clear hr2 hn hg2
    go_wp2_with fail
    refine (end_no w.heap.size _ HR2.out HD2.out).mono ?_
    rintro e w3 ⟨rfl, hb3⟩
    go_wp2_with fail
    go_ret3
    exact ⟨by rw [HN.out]; rfl, hb2.trans (hb3.mono hb2.size)⟩

set_option maxRecDepth 100000 in
set_option maxHeartbeats 1000000 in
theorem getText_no (s : ByteArray) (p : Int) (w : World) (hp : ¬ (0 ≤ p ∧ p ≤ s.size)) (hs : s.size ≤ 140737488355328) (hd : Hd w) :
    Calls Tryd.prog 12 #[.string s, .int .i64 p] w fun e w' => e = gtR none ∧ Below w.heap.size w w' := by
  have HD := Lib.hid hd
  have HP := Lib.hid hp
  clear hd hp
  go_enter Tryd.func12, Tryd.ntmps12
  go_wp2_with fail
  refine (readerAt_no s p _ HP.out hs).mono ?_
  rintro e w1 ⟨rfl, hr1, hb1⟩
  have HR1 := Lib.hid hr1
  have HD1 := Lib.hid (HD.out.below hb1 HD.out.lt)
  clear hr1
  go_wp2_with fail
  refine (sizedText_no w.heap.size _ HR1.out).mono ?_
  rintro e w' ⟨rfl, rfl⟩
  go_wp2_with fail
  refine (end_no w.heap.size _ HR1.out HD1.out).mono ?_
  rintro e w3 ⟨rfl, hb3⟩
  go_wp2_with fail
  go_ret3
  exact ⟨rfl, hb1.trans (hb3.mono hb1.size)⟩

end Go.Proofs.YtffkdidgfeknkaaDoor
