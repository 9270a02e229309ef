/-
  The text of an instruction. No conditions.
-/
import Derived.Test.YtahlpjhhbcjfpaaDoorForm
import Derived.Lib.ItoaLen
import Derived.Lib.Join
namespace Go.Proofs.YtahlpjhhbcjfpaaDoor

/-- The bytes of an instruction's text. -/
def lineL (op a : Int) : List UInt8 := if 0 < hiB op then (nmB op).data.toList ++ 32 :: Lib.itoa a else (nmB op).data.toList
def lineB (op a : Int) : ByteArray := ⟨(lineL op a).toArray⟩
theorem lineB_arg {op : Int} (a : Int) (h : 0 < hiB op) : lineB op a = nmB op ++ ⟨#[32]⟩ ++ ⟨(Lib.itoa a).toArray⟩ := by
  unfold lineB lineL
  rw [if_pos h]
  apply ByteArray.ext
  simp [ByteArray.data_append]
theorem lineB_bare {op : Int} (a : Int) (h : ¬ 0 < hiB op) : lineB op a = nmB op := by
  unfold lineB lineL
  rw [if_neg h]
theorem lineB_join {op : Int} (a : Int) (h : 0 < hiB op) : lineB op a = ⟨(Lib.join ([nmB op, ⟨(Lib.itoa a).toArray⟩].map (·.data.toList)) (⟨#[32]⟩ : ByteArray).data.toList).toArray⟩ := by
  unfold lineB lineL
  rw [if_pos h]
  simp [Lib.join]
end Go.Proofs.YtahlpjhhbcjfpaaDoor
