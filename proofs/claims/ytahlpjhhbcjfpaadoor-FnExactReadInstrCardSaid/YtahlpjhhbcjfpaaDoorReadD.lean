/-
  ReadDecimal: the model's reading, the program's (by the shelf's strconv.ParseInt). Conditions: strings of at most 2^48 bytes; the table of the powers of ten and the two errors lie as the library's texts lay them.
-/
import Derived.Test.YtahlpjhhbcjfpaaDoorDec
import Derived.Test.YtahlpjhhbcjfpaaDoorDecLaws
import Derived.Shelf.Strconv.ParseIntPublic10
import Derived.Shelf.Strconv.ErrVarParseInt
namespace Go.Proofs
open Go.Shelf
shelf_lay LaysC.n174 Nm 174 at Tryd as Tryd.lays174
end Go.Proofs
namespace Go.Proofs.YtahlpjhhbcjfpaaDoor
open Go.RowKit

/-- What both give. -/
def rdR : Option Int → Ending
  | none => .returned (.tuple #[.int .i64 0, .bool false])
  | some n => .returned (.tuple #[.int .i64 n, .bool true])

theorem parseInt_ok (s : ByteArray) (hs : s.size ≤ 281474976710656) (v : Int) (h : Lib.parseIntB 64 s.data.toList = .ok v) (w : World) :
    Calls Tryd.prog 107 #[.string s, .int .i64 10, .int .i64 64] w fun e w' => e = .returned (.tuple #[.int .i64 v, .nilIface]) ∧ Below w.heap.size w w' :=
  (Any.strconv_ParseInt_10_at64_ok Tryd.lays174 s (by omega) v h w).mono fun e w' hh => by
    obtain ⟨rfl, rfl | ⟨t, rfl⟩⟩ := hh
    · exact ⟨rfl, Below.refl _ _⟩
    · exact ⟨rfl, Lib.bytesWorld_below _ _ _⟩
theorem parseInt_fail (s : ByteArray) (hs : s.size ≤ 281474976710656) (h : ∀ v, Lib.parseIntB 64 s.data.toList ≠ .ok v) (w : World)
    (h1 : ∃ tp p, w.var? Tryd.prog "strconv.ErrSyntax" = some #[.iface tp p]) (h2 : ∃ tp p, w.var? Tryd.prog "strconv.ErrRange" = some #[.iface tp p]) :
    Calls Tryd.prog 107 #[.string s, .int .i64 10, .int .i64 64] w fun e w' => (∃ x t N, e = .returned (.tuple #[.int .i64 x, .iface t (.pointer (some ⟨N, 0, none⟩))])) ∧ Below w.heap.size w w' := by
  obtain ⟨tp1, p1, h1⟩ := h1
  obtain ⟨tp2, p2, h2⟩ := h2
  rcases hp : Lib.parseIntB 64 s.data.toList with v | _ | _
  · exact absurd hp (h v)
  · exact (Any.strconv_ParseInt_10_at64_syntax_var Tryd.lays174 s hs hp tp1 p1 w h1).mono fun e w' hh => by
      obtain ⟨N, rfl, -, -, hb⟩ := hh
      exact ⟨⟨_, _, _, rfl⟩, hb⟩
  · exact (Any.strconv_ParseInt_10_at64_range_var Tryd.lays174 s hs hp tp2 p2 w h2).mono fun e w' hh => by
      obtain ⟨N, rfl, -, -, hb⟩ := hh
      exact ⟨⟨_, _, _, rfl⟩, hb⟩
end Go.Proofs.YtahlpjhhbcjfpaaDoor
