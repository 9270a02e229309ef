/-
  GetNumber: what the program's and the model's give, at an index of the string and beside it. Conditions: strings of at most 2^47 bytes; errors.errorType holds the handle of the type error.
-/
import Derived.Test.YtffkdidgfeknkaaDoorReadN
namespace Go.Proofs.YtffkdidgfeknkaaDoor
open Go.RowKit

set_option maxRecDepth 100000 in
set_option maxHeartbeats 1000000 in
/-- The program's GetNumber at an index of the string. -/
theorem getNumber_yes (s : ByteArray) (p : Nat) (w : World) (hp : p ≤ s.size) (hs : s.size ≤ 140737488355328) (hd : Hd w) :
    Calls Tryd.prog 15 #[.string s, .int .i64 p] w fun e w' => e = gnR (getN s p) ∧ Below w.heap.size w w' := by
  have HD := Lib.hid hd
  clear hd
  go_enter Tryd.func15, Tryd.ntmps15
  go_wp2_with fail
  refine (readerAt_yes s p _ hp hs).mono ?_
  rintro e w1 ⟨rfl, hr1, hb1⟩
  have HR1 := Lib.hid hr1
  have hd1 := HD.out.below hb1 HD.out.lt
  have HD1 := Lib.hid hd1
  have hpos := HD.out.lt
  clear hr1 hd1
  go_wp2_with fail
  refine (number_c w.heap.size s p _ HR1.out hs hp).mono ?_
  rintro e w2 ⟨hg2, ⟨n, q, hn, rfl, hr2⟩ | ⟨hn, rfl, q, hr2⟩⟩
  · have HR2 := Lib.hid hr2
    have HN := Lib.hid hn
    have hb2 : Below w.heap.size w w2 := hb1.trans (only_below hg2 (Nat.le_refl _) hb1.size)
    clear hr2 hn hg2
    go_wp2_with fail
    refine (end_yes w.heap.size s q _ HR2.out).mono ?_
    rintro e w3 ⟨rfl, hb3⟩
    go_wp2_with fail
    go_ret3
    exact ⟨by rw [HN.out]; rfl, hb2.trans (hb3.mono hb2.size)⟩
  · have HR2 := Lib.hid hr2.er
    have HN := Lib.hid hn
    have HD2 := Lib.hid (HD1.out.only hg2 hpos)
    have hb2 : Below w.heap.size w w2 := hb1.trans (only_below hg2 (Nat.le_refl _) hb1.size)
    clear hr2 hn hg2
    go_wp2_with fail
    refine (end_no w.heap.size _ HR2.out HD2.out).mono ?_
    rintro e w3 ⟨rfl, hb3⟩
    go_wp2_with fail
    go_ret3
    exact ⟨by rw [HN.out]; rfl, hb2.trans (hb3.mono hb2.size)⟩

set_option maxRecDepth 100000 in
set_option maxHeartbeats 1000000 in
/-- The program's GetNumber beside the string. -/
theorem getNumber_no (s : ByteArray) (p : Int) (w : World) (hp : ¬ (0 ≤ p ∧ p ≤ s.size)) (hs : s.size ≤ 140737488355328) (hd : Hd w) :
    Calls Tryd.prog 15 #[.string s, .int .i64 p] w fun e w' => e = gnR none ∧ Below w.heap.size w w' := by
  have HD := Lib.hid hd
  have HP := Lib.hid hp
  clear hd hp
  go_enter Tryd.func15, Tryd.ntmps15
  go_wp2_with fail
  refine (readerAt_no s p _ HP.out hs).mono ?_
  rintro e w1 ⟨rfl, hr1, hb1⟩
  have HR1 := Lib.hid hr1
  have hd1 := HD.out.below hb1 HD.out.lt
  have HD1 := Lib.hid hd1
  clear hr1 hd1
  go_wp2_with fail
  refine (number_no w.heap.size _ HR1.out).mono ?_
  rintro e w' ⟨rfl, rfl⟩
  go_wp2_with fail
  refine (end_no w.heap.size _ HR1.out HD1.out).mono ?_
  rintro e w3 ⟨rfl, hb3⟩
  go_wp2_with fail
  go_ret3
  exact ⟨rfl, hb1.trans (hb3.mono hb1.size)⟩


end Go.Proofs.YtffkdidgfeknkaaDoor
