/-
  Plain lemmas, of no program: bytes that a call has gathered, as a string; what a row of its own keeps. No conditions.
-/
import Derived.Test.YtidjniaamphhnaaRows
import Derived.WalkKit
import Derived.ProofKit
import Derived.OpenShut
import Derived.ShutString
import Derived.Below
import Derived.Laws.BytesString
import Derived.Laws.OwnMore
import Derived.Lib.Hide
namespace Go.Proofs.Ytidjniaamphhnaa
open Go.RowKit

/-- A number's cell as a byte. -/
def bc (d : Nat) : Value := .int .u8 (d : Int)
/-- The string of some bytes. -/
def bstr (l : List Nat) : ByteArray := ⟨(l.map UInt8.ofNat).toArray⟩

theorem bstr_size (l : List Nat) : (bstr l).size = l.length := by simp [bstr, ByteArray.size]

theorem foldl_push (l : List Nat) (s : ByteArray) :
    ((l.map fun d : Nat => (d : Int)).foldl (fun (r : ByteArray) n => r.push (UInt8.ofNat n.toNat)) s) = ⟨(s.data.toList ++ l.map UInt8.ofNat).toArray⟩ := by
  induction l generalizing s with
  | nil => simp
  | cons d l ih =>
    rw [List.map_cons, List.foldl_cons, ih]
    obtain ⟨⟨a⟩⟩ := s
    simp [ByteArray.push]

theorem ret_bool {a b : Bool} (h : a = b) : Ending.returned (.bool a) = .returned (.bool b) := by rw [h]

section
variable {P : Program} {w w' : World} {base : Nat} {e : TypeId} {v : Value} {n : Nat}

/-- string(v), v a row of bytes of the call's own. -/
theorem run_own_string (src dst : TypeId) (hs : P.underlying src = some (.slice e)) (he : P.underlying e = some (.int .u8)) (hd : P.underlying dst = some .string)
    (l : List Nat) (h : w.ownsRow base e 1 v n (l.map bc)) :
    (convert src dst v).run P w = .ok (.string (bstr l)) w := by
  have hlen : l.length = n := by simpa using h.1
  rcases h.2 with ⟨rfl, hn⟩ | ⟨g, cap, cur, rfl, hb, hg, hnc, hcm, hcs, htake⟩
  · have : l = [] := List.eq_nil_of_length_eq_zero (by omega)
    subst this
    rw [run_convert_bytes_string w src dst e none 0 0 hs he hd]
    simp [Conv.bytesToString, bstr, Sem.run_pure]
    rfl
  · rw [run_convert_bytes_string w src dst e _ n cap hs he hd]
    have hl : (loadCells ⟨g, 0, none⟩ n).run P w = .ok ((l.map fun d : Nat => (d : Int)).map (Value.int .u8)).toArray w := by
      have := run_loadCells_list (P := P) w ⟨g, 0, none⟩ ((l.map fun d : Nat => (d : Int)).map (Value.int .u8)) (fun j u hj => h.cells (g := g) rfl j u (by simpa [bc] using hj))
      simpa [hlen] using this
    rw [run_bytesToString w _ n cap _ hl, foldl_push]
    rfl
end
end Go.Proofs.Ytidjniaamphhnaa
