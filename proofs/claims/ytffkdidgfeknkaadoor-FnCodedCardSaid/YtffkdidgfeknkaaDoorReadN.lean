/-
  The program's GetNumber: what it gives, at an index of the string and beside it. Conditions: strings of at most 2^20 bytes; errors.errorType holds the handle of the type error.
-/
import Derived.Test.YtffkdidgfeknkaaDoorReader
import Derived.Test.YtffkdidgfeknkaaDoorAs
namespace Go.Proofs.YtffkdidgfeknkaaDoor
open Go.RowKit

/-- Block r is a reader that has had an error. -/
def Er (w : World) (r : Nat) : Prop := ∃ (s : ByteArray) (p : Int) (q : Nat), w.heap[r]? = some (.cells #[.string s, .int .i64 p, .iface 113 (.pointer (some ⟨q, 0, none⟩))] 111 (0, 0))
theorem Rd.er {w : World} {r : Nat} {s : ByteArray} {p : Nat} (h : Rd w r s p false) : Er w r := by
  obtain ⟨ev, hr, hcase⟩ := h
  obtain ⟨q, rfl⟩ : ∃ q, ev = .iface 113 (.pointer (some ⟨q, 0, none⟩)) := by
    rcases hcase with ⟨h, _⟩ | ⟨_, h⟩
    · cases h
    · exact h
  exact ⟨s, p, q, hr⟩
theorem Er.lt {w : World} {r : Nat} (h : Er w r) : r < w.heap.size := by
  obtain ⟨_, _, _, h1⟩ := h
  rcases Nat.lt_or_ge r w.heap.size with hlt | hge
  · exact hlt
  · simp [Array.getElem?_eq_none hge] at h1

set_option maxHeartbeats 1000000 in
theorem number_no (r : Nat) (w : World) (h : Er w r) :
    Calls Tryd.prog 42 #[.pointer (some ⟨r, 0, none⟩)] w fun e w' => e = .returned (.int .i64 0) ∧ w = w' := by
  obtain ⟨s, p, q, hr⟩ := h
  obtain ⟨h0, h1, h2, f1, f2⟩ := rd_cells hr
  clear hr
  go_enter Tryd.func42, Tryd.ntmps42
  go_wp2_with fail
  refine wp_loop_rounds 1 ?_
  rw [rounds_succ]
  go_wp2
  go_ret
  exact ⟨rfl, rfl⟩

/-- The handle that errors.As asks for. -/
def Hd (w : World) : Prop := w.cell? ⟨1, 0, none⟩ = some (.iface 158 (.agg #[.pointer (some ⟨5, 109, none⟩)]))
theorem Hd.lt {w : World} (h : Hd w) : 1 < w.heap.size := cell_lt h
theorem Hd.below {w w' : World} {B : Nat} (h : Hd w) (hb : Below B w w') (hB : 1 < B) : Hd w' := (hb.cell (p := ⟨1, 0, none⟩) hB).trans h
theorem Hd.only {w w' : World} {r : Nat} (h : Hd w) (hb : w.grownBy w' (some r)) (hr : 1 < r) : Hd w' :=
  (World.cell?_of_block (hb.block 1 h.lt (fun e => by injection e; omega))).trans h

set_option maxRecDepth 100000 in
set_option maxHeartbeats 1000000 in
theorem readerAt_yes (s : ByteArray) (p : Nat) (w : World) (_ : p ≤ s.size) (_ : s.size ≤ 140737488355328) :
    Calls Tryd.prog 36 #[.string s, .int .i64 p] w fun e w' => e = .returned (.pointer (some ⟨w.heap.size, 0, none⟩)) ∧ Rd w' w.heap.size s p true ∧ Below w.heap.size w w' := by
  go_enter Tryd.func36, Tryd.ntmps36
  go_wp2
  go_ret
  exact ⟨rfl, ⟨_, heap_alloc_new w _, .inl ⟨rfl, rfl⟩⟩, (Below.refl _ _).alloc (Nat.le_refl _) _⟩
set_option maxRecDepth 100000 in
set_option maxHeartbeats 1000000 in
theorem readerAt_no (s : ByteArray) (p : Int) (w : World) (hp : ¬ (0 ≤ p ∧ p ≤ s.size)) (_ : s.size ≤ 140737488355328) :
    Calls Tryd.prog 36 #[.string s, .int .i64 p] w fun e w' => e = .returned (.pointer (some ⟨w.heap.size, 0, none⟩)) ∧ Er w' w.heap.size ∧ Below w.heap.size w w' := by
  by_cases h0 : 0 ≤ p
  · have h1 : (s.size : Int) < p := by omega
    have h2 : decide (p ≤ (s.size : Int)) = false := by simp; omega
    clear hp
    go_enter Tryd.func36, Tryd.ntmps36
    go_wp2
    go_end0
    go_wp2
    go_ret
    exact ⟨rfl, ⟨s, p, _, (Below.heap_alloc _ _ w.heap.size (by simp)).trans (heap_alloc_new w _)⟩, ((Below.refl _ _).alloc (Nat.le_refl _) _).alloc (by simp) _⟩
  · clear hp
    go_enter Tryd.func36, Tryd.ntmps36
    go_wp2
    go_end0
    go_wp2
    go_ret
    exact ⟨rfl, ⟨s, p, _, (Below.heap_alloc _ _ w.heap.size (by simp)).trans (heap_alloc_new w _)⟩, ((Below.refl _ _).alloc (Nat.le_refl _) _).alloc (by simp) _⟩

set_option maxRecDepth 100000 in
set_option maxHeartbeats 1000000 in
theorem end_yes (r : Nat) (s : ByteArray) (p : Nat) (w : World) (h : Rd w r s p true) :
    Calls Tryd.prog 38 #[.pointer (some ⟨r, 0, none⟩)] w fun e w' => e = .returned (.tuple #[.int .i64 p, .bool true]) ∧ Below w.heap.size w w' := by
  have hlt := h.lt
  obtain ⟨ev, hr, hcase⟩ := h
  have hev : ev = .nilIface := by rcases hcase with ⟨_, h⟩ | ⟨h, _⟩; exact h; cases h
  subst hev
  obtain ⟨h0, h1, h2, f1, f2⟩ := rd_cells hr
  clear hr hcase
  go_enter Tryd.func38, Tryd.ntmps38
  go_wp2_with (go_at_call 71; refine (as_nil _ _).mono ?_; rintro e w' ⟨rfl, rfl⟩)
  go_ret2
  exact ⟨rfl, (Below.refl _ _).alloc (Nat.le_refl _) _⟩

set_option maxRecDepth 100000 in
set_option maxHeartbeats 1000000 in
theorem end_no (r : Nat) (w : World) (h : Er w r) (hd : Hd w) :
    Calls Tryd.prog 38 #[.pointer (some ⟨r, 0, none⟩)] w fun e w' => e = .returned (.tuple #[.int .i64 0, .bool false]) ∧ Below w.heap.size w w' := by
  have hlt := h.lt
  obtain ⟨s, p, q, hr⟩ := h
  obtain ⟨h0, h1, h2, f1, f2⟩ := rd_cells hr
  have hda : Hd (w.alloc (.cells #[.pointer none] 113)) := hd.below ((Below.refl _ _).alloc (Nat.le_refl _) _) hd.lt
  have ht : (w.alloc (.cells #[.pointer none] 113)).cell? ⟨w.heap.size, 0, none⟩ = some (.pointer none) := by simp
  have hf : (w.alloc (.cells #[.pointer none] 113)).frozen? ⟨w.heap.size, 0, none⟩ = false := by simp
  have C := Lib.hid (as_hit ⟨q, 0, none⟩ ⟨w.heap.size, 0, none⟩ _ _ hda ht hf)
  clear hr hda ht hf hd
  go_enter Tryd.func38, Tryd.ntmps38
  go_wp2_with (go_at_call 71; refine C.out.mono ?_; rintro e w' ⟨rfl, rfl⟩)
  go_ret2
  refine ⟨rfl, ?_⟩
  repeat (first | exact Below.refl _ _ | refine Below.setCell ?_ (by simp) _ | refine Below.alloc ?_ (by simp <;> omega) _)

/-- What GetNumber gives: the number, the place, whether there is one. -/
def gnR (o : Option (Int × Nat)) : Ending := match o with
  | some (n, q) => .returned (.tuple #[.int .i64 n, .int .i64 q, .bool true])
  | none => .returned (.tuple #[.int .i64 0, .int .i64 0, .bool false])

theorem gn_ret {a b : Int} {n : Int} {q : Nat} (h : a = n) (h' : b = (q : Int)) : Ending.returned (.tuple #[.int .i64 a, .int .i64 b, .bool true]) = gnR (some (n, q)) := by rw [h, h']; rfl
theorem weight_one {j b : Nat} (h : b * 128 ^ (8 - j) = 72057594037927936) : 1 < b ↔ 0 < j := by
  constructor
  · intro hb
    rcases Nat.eq_zero_or_pos j with h0 | h0
    · subst h0
      have e : (128 : Nat) ^ (8 - 0) = 72057594037927936 := by decide
      rw [e] at h
      omega
    · exact h0
  · intro hj
    have h1 : 128 ^ (8 - j) ≤ 128 ^ 7 := Nat.pow_le_pow_right (by decide) (by omega)
    have e : (128 : Nat) ^ 7 = 562949953421312 := by decide
    rw [e] at h1
    rcases Nat.lt_or_ge 1 b with h2 | h2
    · exact h2
    · have : b * 128 ^ (8 - j) ≤ 1 * 562949953421312 := Nat.mul_le_mul h2 h1
      omega

end Go.Proofs.YtffkdidgfeknkaaDoor
