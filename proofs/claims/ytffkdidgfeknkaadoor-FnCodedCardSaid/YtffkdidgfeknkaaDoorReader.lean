/-
  The program's reader of codes: what each of its methods does to it. Conditions: an index from 0 to the length of the string.
-/
import Derived.Test.YtffkdidgfeknkaaDoorKeep
import Derived.BigQuiet
import Derived.Deep.QuietTactic
import Derived.WalkLawsBesides
import Derived.WalkSpells
import Derived.WalkSmall
namespace Go.Proofs.YtffkdidgfeknkaaDoor
open Go.RowKit

/-- Block r is a reader of s at a place; whether it has had no error. -/
def Rd (w : World) (r : Nat) (s : ByteArray) (p : Nat) (ok : Bool) : Prop := ∃ ev, w.heap[r]? = some (.cells #[.string s, .int .i64 p, ev] 111 (0, 0)) ∧
  ((ok = true ∧ ev = .nilIface) ∨ (ok = false ∧ ∃ q, ev = .iface 113 (.pointer (some ⟨q, 0, none⟩))))

section
variable {w : World} {r : Nat} {s : ByteArray} {p : Nat} {ok : Bool}
theorem Rd.lt (h : Rd w r s p ok) : r < w.heap.size := by
  obtain ⟨ev, h1, _⟩ := h
  rcases Nat.lt_or_ge r w.heap.size with hlt | hge
  · exact hlt
  · simp [Array.getElem?_eq_none hge] at h1
end
theorem Rd.drewN {w : World} {r : Nat} {s : ByteArray} {p : Nat} {ok : Bool} (h : Rd w r s p ok) (d : Nat) : Rd (w.drewN d) r s p ok := h
theorem rd_cells {w : World} {r : Nat} {a b c : Value} {t : TypeId} (h : w.heap[r]? = some (.cells #[a, b, c] t (0, 0))) :
    w.cell? ⟨r, 0, none⟩ = some a ∧ w.cell? ⟨r, 1, none⟩ = some b ∧ w.cell? ⟨r, 2, none⟩ = some c ∧ w.frozen? ⟨r, 1, none⟩ = false ∧ w.frozen? ⟨r, 2, none⟩ = false := by
  refine ⟨?_, ?_, ?_, ?_, ?_⟩
  · rw [cell_of_row w r 0 _ _ _ h]; rfl
  · rw [cell_of_row w r 1 _ _ _ h]; rfl
  · rw [cell_of_row w r 2 _ _ _ h]; rfl
  · simp [World.frozen?, h]
  · simp [World.frozen?, h]

theorem rd_set {w : World} {r : Nat} {a b c x : Value} {t : TypeId} (h : w.heap[r]? = some (.cells #[a, b, c] t (0, 0))) :
    (w.setCell ⟨r, 1, none⟩ x).heap[r]? = some (.cells #[a, x, c] t (0, 0)) ∧ (w.setCell ⟨r, 2, none⟩ x).heap[r]? = some (.cells #[a, b, x] t (0, 0)) := by
  have h1 := heap_setCell_same w r 1 _ _ x h
  have h2 := heap_setCell_same w r 2 _ _ x h
  exact ⟨by simpa using h1, by simpa using h2⟩
theorem rd_fail {w : World} {r : Nat} {s : ByteArray} {p : Nat} {o : Obj} (h : w.heap[r]? = some (.cells #[.string s, .int .i64 p, .nilIface] 111 (0, 0))) :
    Rd ((w.setCell ⟨r, 2, none⟩ (.iface 113 (.pointer (some ⟨w.heap.size, 0, none⟩)))).alloc o) r s p false := by
  have hlt : r < w.heap.size := by
    rcases Nat.lt_or_ge r w.heap.size with hlt | hge
    · exact hlt
    · simp [Array.getElem?_eq_none hge] at h
  exact ⟨_, (Below.heap_alloc _ o r (by simpa using hlt)).trans (rd_set h).2, .inr ⟨rfl, _, rfl⟩⟩
set_option maxHeartbeats 1000000 in
/-- fail: the reader has an error then. -/
theorem fail_c (r : Nat) (s what : ByteArray) (p : Nat) (ok : Bool) (w : World) (h : Rd w r s p ok) :
    Calls Tryd.prog 69 #[.pointer (some ⟨r, 0, none⟩), .string what] w fun e w' => e = .returned (.tuple #[]) ∧ Rd w' r s p false ∧ w.grownBy w' (some r) := by
  have hlt := h.lt
  obtain ⟨ev, hr, hcase⟩ := h
  obtain ⟨h0, h1, h2, f1, f2⟩ := rd_cells hr
  have HR := Lib.hid hr
  clear hr
  rcases hcase with ⟨rfl, rfl⟩ | ⟨rfl, q, rfl⟩
  · go_enter Tryd.func69, Tryd.ntmps69
    go_wp2
    go_end0
    exact ⟨rfl, rd_fail HR.out, only_trans only_set (World.grownBy_alloc _ _ _)⟩
  · go_enter Tryd.func69, Tryd.ntmps69
    go_wp2
    go_end0
    exact ⟨rfl, ⟨_, HR.out, .inr ⟨rfl, q, rfl⟩⟩, only_refl _ _⟩

set_option maxRecDepth 100000 in
set_option maxHeartbeats 1000000 in
/-- bytes: the next n bytes, if they are there. -/
theorem bytes_c (r : Nat) (s : ByteArray) (p : Nat) (n : Nat) (w : World) (h : Rd w r s p true) (hs : s.size ≤ 140737488355328) (hp : p ≤ s.size) (hn : n ≤ 40000) :
    Calls Tryd.prog 72 #[.pointer (some ⟨r, 0, none⟩), .int .i64 n] w fun e w' => w.grownBy w' (some r) ∧
      ((p + n ≤ s.size ∧ e = .returned (.string (s.extract p (p + n))) ∧ Rd w' r s (p + n) true) ∨ (¬ p + n ≤ s.size ∧ e = .returned (.string ⟨#[]⟩) ∧ Rd w' r s p false)) := by
  have hlt := h.lt
  have H := Lib.hid h
  obtain ⟨ev, hr, hcase⟩ := h
  have hev : ev = .nilIface := by rcases hcase with ⟨_, h⟩ | ⟨h, _⟩; exact h; cases h
  subst hev
  obtain ⟨h0, h1, h2, f1, f2⟩ := rd_cells hr
  have HR := Lib.hid hr
  clear hr hcase
  by_cases hfit : p + n ≤ s.size
  · have hd : ((s.size : Int) - (p : Int) < (n : Int)) = False := by simp; omega
    have hd2 : decide ((s.size : Int) - (p : Int) < (n : Int)) = false := by simp; omega
    have hw1 : IntKind.i64.wrap ((s.size : Int) - (p : Int)) = (s.size : Int) - (p : Int) := IntWalk.i64_in _ ⟨by omega, by omega⟩
    have hw2 : IntKind.i64.wrap ((p : Int) + (n : Int)) = (p : Int) + (n : Int) := IntWalk.i64_in _ ⟨by omega, by omega⟩
    have hw3 : ((p : Int) + (n : Int)).toNat = p + n := by omega
    have hw4 : (p : Int) ≤ (p : Int) + (n : Int) := by omega
    have hw5 : (p : Int) + (n : Int) ≤ (s.size : Int) := by omega
    have hw6 : 0 ≤ (p : Int) + (n : Int) := by omega
    go_enter Tryd.func72, Tryd.ntmps72
    go_wp2
    go_quiet (fail)
    go_wp2
    go_quiet (fail)
    go_wp2
    go_ret
    exact ⟨only_trans (only_drewN (only_refl _ _) _) only_set, .inl ⟨hfit, rfl, ⟨_, (rd_set (w := w.drewN _) HR.out).1, .inl ⟨rfl, rfl⟩⟩⟩⟩
  · have hd : (s.size : Int) - (p : Int) < (n : Int) := by omega
    have hd2 : decide ((s.size : Int) - (p : Int) < (n : Int)) = true := by simp; omega
    have hw1 : IntKind.i64.wrap ((s.size : Int) - (p : Int)) = (s.size : Int) - (p : Int) := IntWalk.i64_in _ ⟨by omega, by omega⟩
    go_enter Tryd.func72, Tryd.ntmps72
    go_wp2
    go_quiet (fail)
    go_wp2_with fail
    refine (fail_c r s _ p true _ (H.out.drewN _)).mono ?_
    rintro e w2 ⟨rfl, hr2, hg2⟩
    have HR2 := Lib.hid hr2
    clear hr2
    go_wp2_with fail
    go_ret
    exact ⟨only_trans (only_drewN (only_refl _ _) _) hg2, .inr ⟨hfit, rfl, HR2.out⟩⟩

set_option maxRecDepth 100000 in
set_option maxHeartbeats 1000000 in
/-- bytes of a reader that has had an error: nothing. -/
theorem bytes_no (r : Nat) (s : ByteArray) (p : Nat) (n : Int) (w : World) (h : Rd w r s p false) :
    Calls Tryd.prog 72 #[.pointer (some ⟨r, 0, none⟩), .int .i64 n] w fun e w' => e = .returned (.string ⟨#[]⟩) ∧ w = w' := by
  obtain ⟨ev, hr, hcase⟩ := h
  obtain ⟨q, rfl⟩ : ∃ q, ev = .iface 113 (.pointer (some ⟨q, 0, none⟩)) := by
    rcases hcase with ⟨h, _⟩ | ⟨_, h⟩
    · cases h
    · exact h
  obtain ⟨h0, h1, h2, f1, f2⟩ := rd_cells hr
  clear hr hcase
  go_enter Tryd.func72, Tryd.ntmps72
  go_wp2
  go_ret
  exact ⟨rfl, rfl⟩

/-- The byte with an index. -/
def ba (s : ByteArray) (i : Nat) : Nat := (s.data.toList.getD i 0).toNat
theorem ba_at {s : ByteArray} {k : Nat} (h : k < s.size) : s[k].toNat = ba s k := by
  unfold ba
  rw [List.getD, List.getElem?_eq_getElem (by simpa using h)]
  rfl
theorem ba_lt (s : ByteArray) (k : Nat) : ba s k < 256 := UInt8.toNat_lt _
theorem one_byte {s : ByteArray} {p : Nat} (h : p < s.size) : ∃ b : UInt8, s.extract p (p + 1) = ⟨#[b]⟩ ∧ b.toNat = ba s p := by
  refine ⟨s[p], ?_, ba_at h⟩
  apply ByteArray.ext
  apply Array.ext
  · simp; omega
  · intro i h1 h2
    have h3 : i = 0 := by simpa using h2
    subst h3
    simp
    rfl
theorem dig_ret (b : UInt8) : Ending.returned (.tuple #[.int .i64 ((wrap64 (((⟨#[b]⟩ : ByteArray)[0]'(Nat.zero_lt_one)).toNat : Int)).tmod 128), .bool (decide ((128 : Int) ≤ ((⟨#[b]⟩ : ByteArray)[0]'(Nat.zero_lt_one)).toNat))]) =
    .returned (.tuple #[.int .i64 ((b.toNat % 128 : Nat) : Int), .bool (decide (128 ≤ b.toNat))]) := by
  have h := b.toNat_lt
  have e : ((⟨#[b]⟩ : ByteArray)[0]'(Nat.zero_lt_one)) = b := rfl
  rw [e, IntWalk.wrap64_in _ ⟨by omega, by omega⟩, Int.tmod_eq_emod_of_nonneg (by omega)]
  have e1 : (b.toNat : Int) % 128 = ((b.toNat % 128 : Nat) : Int) := by omega
  have e2 : decide ((128 : Int) ≤ (b.toNat : Int)) = decide (128 ≤ b.toNat) := by
    by_cases h : 128 ≤ b.toNat
    · rw [decide_eq_true h, decide_eq_true (by omega)]
    · rw [decide_eq_false h, decide_eq_false (by omega)]
  rw [e1, e2]

set_option maxRecDepth 100000 in
set_option maxHeartbeats 1000000 in
/-- digit: of the next byte. -/
theorem digit_c (r : Nat) (s : ByteArray) (p : Nat) (w : World) (h : Rd w r s p true) (hs : s.size ≤ 140737488355328) (hp : p ≤ s.size) :
    Calls Tryd.prog 74 #[.pointer (some ⟨r, 0, none⟩)] w fun e w' => w.grownBy w' (some r) ∧
      ((p + 1 ≤ s.size ∧ e = .returned (.tuple #[.int .i64 ((ba s p % 128 : Nat) : Int), .bool (decide (128 ≤ ba s p))]) ∧ Rd w' r s (p + 1) true) ∨
       (¬ p + 1 ≤ s.size ∧ e = .returned (.tuple #[.int .i64 0, .bool false]) ∧ Rd w' r s p false)) := by
  have H := Lib.hid h
  clear h
  go_enter Tryd.func74, Tryd.ntmps74
  go_wp2_with fail
  refine (bytes_c r s p 1 _ H.out hs hp (by omega)).mono ?_
  rintro e w1 ⟨hg, ⟨hfit, rfl, hr⟩ | ⟨hfit, rfl, hr⟩⟩
  · have HR := Lib.hid hr
    obtain ⟨b, hb, hbb⟩ := one_byte (s := s) (p := p) (by omega)
    have hlt := ba_lt s p
    have hbl : (b.toNat : Int) < 256 := by omega
    have HBB := Lib.hid hbb
    rw [hb]
    clear hr hb hbb
    go_wp2_with fail
    go_quiet (fail)
    go_wp2
    go_ret2
    refine ⟨only_drewN hg _, .inl ⟨hfit, ?_, HR.out⟩⟩
    rw [← HBB.out]
    exact dig_ret b
  · have HR := Lib.hid hr
    clear hr
    go_wp2_with fail
    go_ret2
    exact ⟨hg, .inr ⟨hfit, rfl, HR.out⟩⟩

set_option maxHeartbeats 1000000 in
/-- digit of a reader that has had an error: none. -/
theorem digit_no (r : Nat) (s : ByteArray) (p : Nat) (w : World) (h : Rd w r s p false) :
    Calls Tryd.prog 74 #[.pointer (some ⟨r, 0, none⟩)] w fun e w' => e = .returned (.tuple #[.int .i64 0, .bool false]) ∧ w = w' := by
  have H := Lib.hid h
  clear h
  go_enter Tryd.func74, Tryd.ntmps74
  go_wp2_with fail
  refine (bytes_no r s p 1 _ H.out).mono ?_
  rintro e w' ⟨rfl, rfl⟩
  go_wp2_with fail
  go_ret2
  exact ⟨rfl, rfl⟩

/-- The number whose code has the digits of m. -/
def sg (m : Nat) : Int := if m % 2 = 0 then (m / 2 : Nat) else -((m / 2 : Nat) : Int) - 1

set_option maxRecDepth 100000 in
set_option maxHeartbeats 1000000 in
theorem signed_c (r : Nat) (s : ByteArray) (p : Nat) (m : Nat) (w : World) (h : Rd w r s p true) (hm : (m : Int) ≤ 1000000000000000000) :
    Calls Tryd.prog 75 #[.pointer (some ⟨r, 0, none⟩), .int .i64 m] w fun e w' => w.grownBy w' (some r) ∧
      ((m ≤ 2000000000000000 ∧ e = .returned (.int .i64 (sg m)) ∧ Rd w' r s p true) ∨ (¬ m ≤ 2000000000000000 ∧ e = .returned (.int .i64 0) ∧ Rd w' r s p false)) := by
  have H := Lib.hid h
  obtain ⟨ev, hr, hcase⟩ := h
  have hev : ev = .nilIface := by rcases hcase with ⟨_, h⟩ | ⟨h, _⟩; exact h; cases h
  subst hev
  obtain ⟨h0, h1, h2, f1, f2⟩ := rd_cells hr
  clear hr hcase
  by_cases hle : m ≤ 2000000000000000
  · by_cases hev : m % 2 = 0
    · have hq : ((m : Int) % 2 == 0) = true := by rw [beq_iff_eq]; omega
      have HE := Lib.hid hev
      clear hev
      go_enter Tryd.func75, Tryd.ntmps75
      go_wp2
      go_ret
      exact ⟨only_refl _ _, .inl ⟨hle, by unfold sg; rw [if_pos HE.out]; go_num, H.out⟩⟩
    · have hq : ((m : Int) % 2 == 0) = false := by rw [beq_eq_false_iff_ne]; omega
      have HE := Lib.hid hev
      clear hev
      go_enter Tryd.func75, Tryd.ntmps75
      go_wp2
      go_ret
      exact ⟨only_refl _ _, .inl ⟨hle, by unfold sg; rw [if_neg HE.out]; go_num, H.out⟩⟩
  · go_enter Tryd.func75, Tryd.ntmps75
    go_wp2_with fail
    refine (fail_c r s _ p true _ H.out).mono ?_
    rintro e w2 ⟨rfl, hr2, hg2⟩
    have HR2 := Lib.hid hr2
    obtain ⟨ev, hr, hcase⟩ := hr2
    obtain ⟨q, rfl⟩ : ∃ q, ev = .iface 113 (.pointer (some ⟨q, 0, none⟩)) := by
      rcases hcase with ⟨h, _⟩ | ⟨_, h⟩
      · cases h
      · exact h
    obtain ⟨g0, g1, g2, _, _⟩ := rd_cells hr
    clear hr hcase
    go_wp2_with fail
    go_ret
    exact ⟨hg2, .inr ⟨hle, rfl, HR2.out⟩⟩

set_option maxRecDepth 100000 in
set_option maxHeartbeats 1000000 in
theorem signed_no (r : Nat) (s : ByteArray) (p : Nat) (m : Nat) (w : World) (h : Rd w r s p false) (hm : (m : Int) ≤ 1000000000000000000) :
    Calls Tryd.prog 75 #[.pointer (some ⟨r, 0, none⟩), .int .i64 m] w fun e w' => e = .returned (.int .i64 0) ∧ Rd w' r s p false ∧ w.grownBy w' (some r) := by
  have H := Lib.hid h
  by_cases hle : m ≤ 2000000000000000
  · obtain ⟨ev, hr, hcase⟩ := h
    obtain ⟨q, rfl⟩ : ∃ q, ev = .iface 113 (.pointer (some ⟨q, 0, none⟩)) := by
      rcases hcase with ⟨h, _⟩ | ⟨_, h⟩
      · cases h
      · exact h
    obtain ⟨h0, h1, h2, f1, f2⟩ := rd_cells hr
    clear hr hcase
    go_enter Tryd.func75, Tryd.ntmps75
    go_wp2
    go_ret
    exact ⟨rfl, H.out, only_refl _ _⟩
  · clear h
    go_enter Tryd.func75, Tryd.ntmps75
    go_wp2_with fail
    refine (fail_c r s _ p false _ H.out).mono ?_
    rintro e w2 ⟨rfl, hr2, hg2⟩
    have HR2 := Lib.hid hr2
    obtain ⟨ev, hr, hcase⟩ := hr2
    obtain ⟨q, rfl⟩ : ∃ q, ev = .iface 113 (.pointer (some ⟨q, 0, none⟩)) := by
      rcases hcase with ⟨h, _⟩ | ⟨_, h⟩
      · cases h
      · exact h
    obtain ⟨g0, g1, g2, _, _⟩ := rd_cells hr
    clear hr hcase
    go_wp2_with fail
    go_ret
    exact ⟨rfl, HR2.out, hg2⟩

/-- The digits from place p on: their number, and the place behind them; f more may come. -/
def gnum (s : ByteArray) : Nat → Nat → Nat → Nat → Option (Nat × Nat)
  | 0, _, _, _ => none
  | f + 1, p, m, b => if p < s.size then (if 128 ≤ ba s p then gnum s f (p + 1) (m + (ba s p - 128) * b) (b * 128) else if ba s p = 0 ∧ 1 < b then none else some (m + ba s p * b, p + 1)) else none
/-- The number whose code begins at place p, and the place behind it. -/
def getN (s : ByteArray) (p : Nat) : Option (Int × Nat) := match gnum s 8 p 0 1 with
  | some (m, q) => if m ≤ 2000000000000000 then some (sg m, q) else none
  | none => none
theorem getN_some {s : ByteArray} {p m q : Nat} (h : gnum s 8 p 0 1 = some (m, q)) (hm : m ≤ 2000000000000000) : getN s p = some (sg m, q) := by
  unfold getN; rw [h]; simp [hm]
theorem getN_great {s : ByteArray} {p m q : Nat} (h : gnum s 8 p 0 1 = some (m, q)) (hm : ¬ m ≤ 2000000000000000) : getN s p = none := by
  unfold getN; rw [h]; simp [hm]
theorem getN_none {s : ByteArray} {p : Nat} (h : gnum s 8 p 0 1 = none) : getN s p = none := by
  unfold getN; rw [h]
theorem gnum_le (s : ByteArray) : ∀ (f p m b : Nat) (x q : Nat), gnum s f p m b = some (x, q) → p < q ∧ q ≤ s.size
  | 0, _, _, _, _, _, h => by simp [gnum] at h
  | f + 1, p, m, b, x, q, h => by
    unfold gnum at h
    by_cases h1 : p < s.size
    · rw [if_pos h1] at h
      by_cases h2 : 128 ≤ ba s p
      · rw [if_pos h2] at h
        have := gnum_le s f _ _ _ x q h
        omega
      · rw [if_neg h2] at h
        by_cases h3 : ba s p = 0 ∧ 1 < b
        · rw [if_pos h3] at h; cases h
        · rw [if_neg h3] at h
          simp at h
          omega
    · rw [if_neg h1] at h; cases h
theorem getN_le {s : ByteArray} {p q : Nat} {n : Int} (h : getN s p = some (n, q)) : p < q ∧ q ≤ s.size ∧ -1000000000000000 ≤ n ∧ n ≤ 1000000000000000 := by
  unfold getN at h
  cases hg : gnum s 8 p 0 1 with
  | none => rw [hg] at h; cases h
  | some x =>
    obtain ⟨m, q'⟩ := x
    rw [hg] at h
    by_cases hm : m ≤ 2000000000000000
    · simp only [hm, if_true] at h
      injection h with h
      injection h with h1 h2
      subst h1; subst h2
      have := gnum_le s _ _ _ _ _ _ hg
      refine ⟨this.1, this.2, ?_, ?_⟩ <;> unfold sg <;> split <;> omega
    · simp [hm] at h

theorem gnum_next {s : ByteArray} {j q m b : Nat} (hj : j < 8) (hq : q < s.size) :
    gnum s (8 - j) q m b = if 128 ≤ ba s q then gnum s (8 - (j + 1)) (q + 1) (m + (ba s q - 128) * b) (b * 128) else if ba s q = 0 ∧ 1 < b then none else some (m + ba s q * b, q + 1) := by
  have e : 8 - j = (8 - (j + 1)) + 1 := by omega
  rw [e, gnum, if_pos hq]
theorem weight_next {j b : Nat} (h : b * 128 ^ (8 - j) = 72057594037927936) (hj : j < 8) : (b : Int) * 128 ≤ 72057594037927936 ∧ Hid (b * 128 * 128 ^ (8 - (j + 1)) = 72057594037927936) := by
  have e : 8 - j = (8 - (j + 1)) + 1 := by omega
  rw [e, Nat.pow_succ, Nat.mul_comm (128 ^ _) 128, ← Nat.mul_assoc] at h
  refine ⟨?_, h⟩
  have h1 : 1 ≤ 128 ^ (8 - (j + 1)) := Nat.pow_pos (by decide)
  have h2 : b * 128 * 1 ≤ b * 128 * 128 ^ (8 - (j + 1)) := Nat.mul_le_mul_left _ h1
  omega

set_option maxRecDepth 100000 in
set_option maxHeartbeats 4000000 in
/-- number: as its digits say, or an error. -/
theorem number_c (r : Nat) (s : ByteArray) (p : Nat) (w : World) (h : Rd w r s p true) (hs : s.size ≤ 140737488355328) (hp : p ≤ s.size) :
    Calls Tryd.prog 42 #[.pointer (some ⟨r, 0, none⟩)] w fun e w' => w.grownBy w' (some r) ∧
      ((∃ n q, getN s p = some (n, q) ∧ e = .returned (.int .i64 n) ∧ Rd w' r s q true) ∨ (getN s p = none ∧ e = .returned (.int .i64 0) ∧ ∃ q, Rd w' r s q false)) := by
  have H := Lib.hid h
  clear h
  go_enter Tryd.func42, Tryd.ntmps42
  go_wp2_with fail
  go_loopw [3, 4, 7] (fun mv wv jv wr => ∃ j q m b : Nat, j ≤ 8 ∧ jv = .int .i64 j ∧ mv = .int .i64 m ∧ wv = .int .i64 b ∧ q ≤ s.size ∧ Hid (Rd wr r s q true) ∧ w.grownBy wr (some r) ∧
      Hid (gnum s 8 p 0 1 = gnum s (8 - j) q m b) ∧ Hid (b * 128 ^ (8 - j) = 72057594037927936) ∧ (m : Int) < b ∧ (b : Int) ≤ 72057594037927936) (fun _ _ jv _ => 8 - (intOf jv).toNat)
  case atStart => exact ⟨0, p, 0, 1, by omega, rfl, rfl, rfl, hp, H.out, only_refl _ _, rfl, (by decide : (1 : Nat) * 128 ^ (8 - 0) = 72057594037927936), by omega, by omega⟩
  case round =>
    obtain ⟨j, q, m, b, hj, rfl, rfl, rfl, hq, hr, hg, hgn, hbw, hmb, hb⟩ := hrel
    by_cases hlt : j < 8
    · go_wp2_with fail
      refine (digit_c r s q _ hr.out hs hq).mono ?_
      rintro e w1 ⟨hg1, ⟨hfit, rfl, hr1⟩ | ⟨hfit, rfl, hr1⟩⟩
      · have HR1 := Lib.hid hr1
        have hx := ba_lt s q
        have HX := Lib.hid (gnum_next (s := s) (q := q) (m := m) (b := b) hlt (by omega))
        obtain ⟨hb1, hbw2⟩ := weight_next hbw.out hlt
        have hg2 := only_trans hg hg1
        clear hr1 hg hg1 hr
        generalize ba s q = x at *
        by_cases h128 : 128 ≤ x
        · rw [decide_eq_true h128]
          have HXX : Hid (gnum s 8 p 0 1 = gnum s (8 - (j + 1)) (q + 1) (m + x % 128 * b) (b * 128)) := by
            show _ = _
            rw [hgn.out, HX.out, if_pos h128]
            have e : x - 128 = x % 128 := by omega
            rw [e]
          have hd : x % 128 ≤ 127 := by omega
          clear HX h128
          generalize x % 128 = d at *
          have hp1 : d * b ≤ 127 * b := Nat.mul_le_mul_right b hd
          have hp2 : (d : Int) * (b : Int) ≤ 127 * (b : Int) := by rw [← Int.natCast_mul]; omega
          have hp3 : 0 ≤ (d : Int) * (b : Int) := by rw [← Int.natCast_mul]; omega
          have HM := Lib.hid hp1
          clear hp1
          go_wp2_with fail
          go_roundw
          case rel => exact ⟨j + 1, q + 1, m + d * b, b * 128, by omega, by go_num, by rw [Int.natCast_add, Int.natCast_mul], by go_num, by omega, HR1.out, hg2, HXX, hbw2, by have := HM.out; rw [Int.natCast_add, Int.natCast_mul]; omega, by omega⟩
          case measure => simp [intOf]; omega
        · rw [decide_eq_false h128]
          have e : x % 128 = x := by omega
          rw [e]
          clear e
          have hd : x ≤ 127 := by omega
          have hp1 : x * b ≤ 127 * b := Nat.mul_le_mul_right b hd
          have hp2 : (x : Int) * (b : Int) ≤ 127 * (b : Int) := by rw [← Int.natCast_mul]; omega
          have hp3 : 0 ≤ (x : Int) * (b : Int) := by rw [← Int.natCast_mul]; omega
          have HM := Lib.hid hp1
          clear hp1
          by_cases hz : x = 0
          · subst hz
            by_cases hb2 : 1 < b
            · have HN : Hid (getN s p = none) := getN_none (by rw [hgn.out, HX.out, if_neg (by omega), if_pos ⟨rfl, hb2⟩])
              clear HX hgn
              go_wp2_with fail
              refine (fail_c r s _ (q + 1) true _ HR1.out).mono ?_
              rintro e w2 ⟨rfl, hr2, hg3⟩
              have HR2 := Lib.hid hr2
              clear hr2
              go_wp2_with fail
              refine (signed_no r s (q + 1) m _ HR2.out (by omega)).mono ?_
              rintro e w3 ⟨rfl, hr3, hg4⟩
              have HR3 := Lib.hid hr3
              clear hr3
              go_wp2_with fail
              go_ret
              exact ⟨only_trans hg2 (only_trans hg3 hg4), .inr ⟨HN.out, rfl, _, HR3.out⟩⟩
            · have HN : Hid (gnum s 8 p 0 1 = some (m, q + 1)) := by
                show _ = _
                rw [hgn.out, HX.out, if_neg (by omega), if_neg (by omega)]
                simp
              clear HX hgn
              go_wp2_with fail
              refine (signed_c r s (q + 1) m _ HR1.out (by omega)).mono ?_
              rintro e w2 ⟨hg3, ⟨hm, rfl, hr2⟩ | ⟨hm, rfl, hr2⟩⟩
              · have HR2 := Lib.hid hr2
                clear hr2
                go_wp2_with fail
                go_ret
                exact ⟨only_trans hg2 hg3, .inl ⟨_, _, getN_some HN.out hm, rfl, HR2.out⟩⟩
              · have HR2 := Lib.hid hr2
                clear hr2
                go_wp2_with fail
                go_ret
                exact ⟨only_trans hg2 hg3, .inr ⟨getN_great HN.out hm, rfl, _, HR2.out⟩⟩
          · have HN : Hid (gnum s 8 p 0 1 = some (m + x * b, q + 1)) := by
              show _ = _
              rw [hgn.out, HX.out, if_neg (by omega), if_neg (by omega)]
            have hz1 : ((x : Int) == 0) = false := by rw [beq_eq_false_iff_ne]; omega
            have hms : ((m + x * b : Nat) : Int) = (m : Int) + (x : Int) * (b : Int) := by rw [Int.natCast_add, Int.natCast_mul]
            have C := Lib.hid (fun w hr => signed_c r s (q + 1) (m + x * b) w hr (by rw [hms]; omega))
            rw [hms] at C
            clear HX hgn hz hms
            go_wp2_with fail
            refine (C.out _ HR1.out).mono ?_
            rintro e w2 ⟨hg3, ⟨hm, rfl, hr2⟩ | ⟨hm, rfl, hr2⟩⟩
            · have HR2 := Lib.hid hr2
              have HMM := Lib.hid hm
              clear hr2 hm
              go_wp2_with fail
              go_ret
              exact ⟨only_trans hg2 hg3, .inl ⟨_, _, getN_some HN.out HMM.out, rfl, HR2.out⟩⟩
            · have HR2 := Lib.hid hr2
              have HMM := Lib.hid hm
              clear hr2 hm
              go_wp2_with fail
              go_ret
              exact ⟨only_trans hg2 hg3, .inr ⟨getN_great HN.out HMM.out, rfl, _, HR2.out⟩⟩
      · have HR1 := Lib.hid hr1
        have HN : Hid (getN s p = none) := getN_none (by
          rw [hgn.out]
          obtain ⟨f, hf⟩ : ∃ f, 8 - j = f + 1 := ⟨7 - j, by omega⟩
          rw [hf, gnum, if_neg (by omega)])
        obtain ⟨hb1, hbw2⟩ := weight_next hbw.out hlt
        have hg2 := only_trans hg hg1
        clear hr1 hg hg1 hr hgn hbw hbw2
        by_cases hb2 : 1 < b
        · go_wp2_with fail
          refine (fail_c r s _ q false _ HR1.out).mono ?_
          rintro e w2 ⟨rfl, hr2, hg3⟩
          have HR2 := Lib.hid hr2
          clear hr2
          go_wp2_with fail
          refine (signed_no r s q m _ HR2.out (by omega)).mono ?_
          rintro e w3 ⟨rfl, hr3, hg4⟩
          have HR3 := Lib.hid hr3
          clear hr3
          go_wp2_with fail
          go_ret
          exact ⟨only_trans hg2 (only_trans hg3 hg4), .inr ⟨HN.out, rfl, _, HR3.out⟩⟩
        · go_wp2_with fail
          refine (signed_no r s q m _ HR1.out (by omega)).mono ?_
          rintro e w3 ⟨rfl, hr3, hg4⟩
          have HR3 := Lib.hid hr3
          clear hr3
          go_wp2_with fail
          go_ret
          exact ⟨only_trans hg2 hg4, .inr ⟨HN.out, rfl, _, HR3.out⟩⟩
    · have HN : Hid (getN s p = none) := getN_none (by
        rw [hgn.out]
        have e : 8 - j = 0 := by omega
        rw [e, gnum])
      clear hgn
      go_wp2_with fail
      refine (fail_c r s _ q true _ hr.out).mono ?_
      rintro e w2 ⟨rfl, hr2, hg3⟩
      have HR2 := Lib.hid hr2
      clear hr2
      go_wp2_with fail
      go_ret
      exact ⟨only_trans hg hg3, .inr ⟨HN.out, rfl, _, HR2.out⟩⟩
end Go.Proofs.YtffkdidgfeknkaaDoor
