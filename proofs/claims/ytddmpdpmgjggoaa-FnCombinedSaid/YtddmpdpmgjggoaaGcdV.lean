/-
  Lists that can be coded, and greatest common divisors: what the program's and the model's functions give. Conditions: lists of at most 2^20 whole numbers of 64 bits.
-/
import Derived.Test.YtddmpdpmgjggoaaInts
import Derived.Test.YtddmpdpmgjggoaaCodedV
import Derived.WalkLawsBesides
namespace Go.Proofs.Ytddmpdpmgjggoaa
open Go.RowKit

/-- The greatest common divisor of a list. -/
def gcdL (zs : List Int) : Nat := zs.foldl (fun g z => Nat.gcd g z.natAbs) 0
theorem gcdL_succ {zs : List Int} {k : Nat} {x : Int} (hx : zs[k]? = some x) : gcdL (zs.take (k + 1)) = Nat.gcd (gcdL (zs.take k)) x.natAbs := by
  rw [List.take_add_one, hx]
  simp [gcdL, List.foldl_append]
theorem gcd_step {a b : Int} (_ : b ≠ 0) : Nat.gcd b.natAbs (a.tmod b).natAbs = Nat.gcd a.natAbs b.natAbs := by
  rw [Int.natAbs_tmod, Nat.gcd_comm b.natAbs, ← Nat.gcd_rec, Nat.gcd_comm]
theorem tmod_small {a b : Int} (hb : b ≠ 0) : (a.tmod b).natAbs < b.natAbs := by
  rw [Int.natAbs_tmod]; exact Nat.mod_lt _ (by omega)

theorem ret_int_bool {a b : Int} {t : Bool} (h : a = b) : Ending.returned (.tuple #[.int .i64 a, .bool t]) = .returned (.tuple #[.int .i64 b, .bool t]) := by rw [h]
/-- What the inner loop keeps of two numbers. -/
def Gk (g : Nat) (a b : Int) : Prop := Nat.gcd a.natAbs b.natAbs = g

theorem gcd_le (a b : Int) (ha : (a.natAbs : Int) ≤ 1000000000000000) (hb : (b.natAbs : Int) ≤ 1000000000000000) : ((Nat.gcd a.natAbs b.natAbs : Nat) : Int) ≤ 1000000000000000 := by
  rcases Nat.eq_zero_or_pos a.natAbs with h | h
  · rw [h, Nat.gcd_zero_left]; exact hb
  · have := Nat.gcd_le_left b.natAbs h
    omega

end Go.Proofs.Ytddmpdpmgjggoaa
