/-
  The text of code. No conditions.
-/
import Derived.Test.YtahlpjhhbcjfpaaDoorInsI
namespace Go.Proofs.YtahlpjhhbcjfpaaDoor

/-- The bytes of a code's text: each instruction's line and a newline. -/
def txtL (xs : List (Int × Int)) : List UInt8 := xs.flatMap fun x => lineL x.1 x.2 ++ [10]
def txtB (xs : List (Int × Int)) : ByteArray := ⟨(txtL xs).toArray⟩
theorem txtL_succ {xs : List (Int × Int)} {k : Nat} {x : Int × Int} (h : xs[k]? = some x) : txtL (xs.take (k + 1)) = txtL (xs.take k) ++ (lineL x.1 x.2 ++ [10]) := by
  unfold txtL; rw [List.take_add_one, h]; simp
theorem lineB_toList (op a : Int) : (lineB op a).data.toList = lineL op a := by unfold lineB; simp
theorem lineB_size (op a : Int) : (lineB op a).size = (lineL op a).length := by rw [← lineB_toList, Array.length_toList]; rfl
theorem txtB_succ {xs : List (Int × Int)} {k : Nat} {x : Int × Int} (h : xs[k]? = some x) : txtB (xs.take (k + 1)) = txtB (xs.take k) ++ (lineB x.1 x.2 ++ ⟨#[10]⟩) := by
  unfold txtB
  rw [txtL_succ h]
  apply ByteArray.ext
  simp [ByteArray.data_append, lineB]
theorem lineL_short {op a : Int} (h : instrB op a = true) : (lineL op a).length ≤ 28 := by
  have hl := instrB_lim h
  have h5 := nm_size op hl.1
  have h5' : (nmB op).data.toList.length ≤ 5 := by rw [Array.length_toList]; exact h5
  have h21 := Lib.itoa_length_le a (by omega) (by omega)
  unfold lineL
  split
  · simp only [List.length_append, List.length_cons]; omega
  · omega
theorem txtL_short : ∀ (xs : List (Int × Int)), (∀ x ∈ xs, instrB x.1 x.2 = true) → (txtL xs).length ≤ 29 * xs.length
  | [], _ => by simp [txtL]
  | x :: xs, h => by
    have h1 := txtL_short xs fun y hy => h y (List.mem_cons_of_mem _ hy)
    have h2 := lineL_short (h x List.mem_cons_self)
    have e : txtL (x :: xs) = (lineL x.1 x.2 ++ [10]) ++ txtL xs := by simp [txtL]
    rw [e]
    simp only [List.length_append, List.length_cons, List.length_nil]
    omega
theorem txtL_take {xs : List (Int × Int)} (h : codeB xs = true) (k : Nat) : (txtL (xs.take k)).length ≤ 2320 := by
  have hp := codeB_parts h
  have h1 := txtL_short (xs.take k) fun x hx => hp.2.2 x (List.mem_of_mem_take hx)
  have h2 : (xs.take k).length ≤ 80 := by rw [List.length_take]; omega
  omega
theorem txtB_size (xs : List (Int × Int)) : (txtB xs).size = (txtL xs).length := by
  have e : (txtB xs).data.toList = txtL xs := by unfold txtB; simp
  rw [← e, Array.length_toList]; rfl
def txtR (xs : List (Int × Int)) : ByteArray × Bool := if codeB xs = true then (txtB xs, true) else (⟨#[]⟩, false)
theorem txtR_yes {xs : List (Int × Int)} (h : codeB xs = true) : txtR xs = (txtB xs, true) := if_pos h
theorem txtR_no {xs : List (Int × Int)} (h : codeB xs = false) : txtR xs = (⟨#[]⟩, false) := if_neg (by rw [h]; decide)
end Go.Proofs.YtahlpjhhbcjfpaaDoor
