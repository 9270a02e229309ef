/-
  Plain lemmas, of no program: bytes that a call has gathered, as a string; what a row of its own keeps. No conditions.
-/
import Derived.Test.YtajmbnimdngjhaaGreatDoorRows
import Derived.WalkKit
import Derived.ProofKit
import Derived.OpenShut
import Derived.ShutString
import Derived.Below
import Derived.Laws.BytesString
import Derived.Laws.OwnMore
import Derived.Lib.Hide
namespace Go.Proofs.YtajmbnimdngjhaaGreatDoor
open Go.RowKit

/-- A number's cell as a byte. -/
def bc (d : Nat) : Value := .int .u8 (d : Int)
/-- The string of some bytes. -/
def bstr (l : List Nat) : ByteArray := ⟨(l.map UInt8.ofNat).toArray⟩

theorem bstr_size (l : List Nat) : (bstr l).size = l.length := by simp [bstr, ByteArray.size]

theorem foldl_push (l : List Nat) (s : ByteArray) :
    ((l.map fun d : Nat => (d : Int)).foldl (fun (r : ByteArray) n => r.push (UInt8.ofNat n.toNat)) s) = ⟨(s.data.toList ++ l.map UInt8.ofNat).toArray⟩ := by
  induction l generalizing s with
  | nil => simp
  | cons d l ih =>
    rw [List.map_cons, List.foldl_cons, ih]
    obtain ⟨⟨a⟩⟩ := s
    simp [ByteArray.push]

theorem ret_bool {a b : Bool} (h : a = b) : Ending.returned (.bool a) = .returned (.bool b) := by rw [h]

section
variable {P : Program} {w w' : World} {base : Nat} {e : TypeId} {v : Value} {n : Nat}

/-- string(v), v a row of bytes of the call's own. -/
theorem run_own_string (src dst : TypeId) (hs : P.underlying src = some (.slice e)) (he : P.underlying e = some (.int .u8)) (hd : P.underlying dst = some .string)
    (l : List Nat) (h : w.ownsRow base e 1 v n (l.map bc)) :
    (convert src dst v).run P w = .ok (.string (bstr l)) w := by
  have hlen : l.length = n := by simpa using h.1
  rcases h.2 with ⟨rfl, hn⟩ | ⟨g, cap, cur, rfl, hb, hg, hnc, hcm, hcs, htake⟩
  · have : l = [] := List.eq_nil_of_length_eq_zero (by omega)
    subst this
    rw [run_convert_bytes_string w src dst e none 0 0 hs he hd]
    simp [Conv.bytesToString, bstr, Sem.run_pure]
    rfl
  · rw [run_convert_bytes_string w src dst e _ n cap hs he hd]
    have hl : (loadCells ⟨g, 0, none⟩ n).run P w = .ok ((l.map fun d : Nat => (d : Int)).map (Value.int .u8)).toArray w := by
      have := run_loadCells_list (P := P) w ⟨g, 0, none⟩ ((l.map fun d : Nat => (d : Int)).map (Value.int .u8)) (fun j u hj => h.cells (g := g) rfl j u (by simpa [bc] using hj))
      simpa [hlen] using this
    rw [run_bytesToString w _ n cap _ hl, foldl_push]
    rfl
end

/-- THE CELLS xs LIE WHERE A SLICE's VALUE LEADS (its address A; nothing is asked of A where there is none), below block B. -/
def Row (w : World) (B : Nat) (A : Option Addr) (xs : List Value) : Prop :=
  ∀ j, j < xs.length → ∃ b off, A = some ⟨b, off, none⟩ ∧ b < B ∧ w.cell? ⟨b, off + j, none⟩ = xs[j]?

section
variable {w w' : World} {B B' : Nat} {A : Option Addr} {xs : List Value}
theorem Row.nil : Row w B A [] := fun _ h => absurd h (Nat.not_lt_zero _)
theorem Row.below (h : Row w B A xs) (hb : Below B' w w') (hB : B ≤ B') : Row w' B A xs := fun j hj => by
  obtain ⟨b, off, e, hlt, hc⟩ := h j hj
  exact ⟨b, off, e, hlt, (hb.cell (p := ⟨b, off + j, none⟩) (by show b < B'; omega)).trans hc⟩
theorem Row.more (h : Row w B A xs) (hB : B ≤ B') : Row w B' A xs := fun j hj => by
  obtain ⟨b, off, e, hlt, hc⟩ := h j hj
  exact ⟨b, off, e, by omega, hc⟩
theorem Row.drew (h : Row w B A xs) : Row w.drew B A xs := h
theorem Row.of_own {base : Nat} {e : TypeId} {size n c g : Nat} (h : w.ownsRow base e size (.slice (some ⟨g, 0, none⟩) n c) n xs) : Row w w.heap.size (some ⟨g, 0, none⟩) xs := fun j hj =>
  ⟨g, 0, rfl, (h.lt g rfl).2, by rw [Nat.zero_add]; exact h.cellAt j (by have := h.1; omega)⟩
end

theorem cell_lt {w : World} {b o : Nat} {sp : Option Nat} {v : Value} (h : w.cell? ⟨b, o, sp⟩ = some v) : b < w.heap.size := by
  rcases Nat.lt_or_ge b w.heap.size with hlt | hge
  · exact hlt
  · rw [World.cell?] at h
    simp [Array.getElem?_eq_none hge] at h
/-- A whole number's cell. -/
def ic (z : Int) : Value := .int .i64 z
theorem Row.int_at {w : World} {B : Nat} {A : Option Addr} {zs : List Int} {k : Nat} (h : Row w B A (zs.map ic)) (hk : k < zs.length) :
    ∃ b off x, A = some ⟨b, off, none⟩ ∧ b < B ∧ zs[k]? = some x ∧ w.cell? ⟨b, off + k, none⟩ = some (.int .i64 x) := by
  obtain ⟨b, off, e, hb, hc⟩ := h k (by simpa using hk)
  refine ⟨b, off, zs[k], e, hb, List.getElem?_eq_getElem hk, ?_⟩
  rw [hc]; simp [hk, ic]

/-! A row that a loop fills from its left, out of cells that are made alike. -/
theorem copy_start (n : Nat) (xs : List Value) {z : Value} (hz : z.cells = #[z] := by rfl) : (madeCells z.cells (n * 1)).toList = xs.take 0 ++ List.replicate (n - 0) z := by
  rw [hz, toList_madeCells_one]
  simp
theorem copy_step {n k : Nat} {xs : List Value} {z x : Value} (hz : xs.length = n) (hk : k < n) (hx : xs[k]? = some x) :
    (xs.take k ++ List.replicate (n - k) z).set k x = xs.take (k + 1) ++ List.replicate (n - (k + 1)) z := by
  have e : n - k = (n - (k + 1)) + 1 := by omega
  have hl : (xs.take k).length = k := by simp; omega
  rw [e, List.replicate_succ, List.set_append_right _ _ (by omega), hl, Nat.sub_self, List.set_cons_zero, List.take_add_one, hx]
  simp
theorem copy_end {k : Nat} {xs : List Value} {z : Value} (hz : xs.length = k) : xs.take k ++ List.replicate (k - k) z = xs := by
  rw [Nat.sub_self, List.take_of_length_le (by omega)]
  simp
theorem own_less {w : World} {base base' : Nat} {e : TypeId} {size n : Nat} {v : Value} {xs : List Value} (h : w.ownsRow base e size v n xs) (hb : base' ≤ base) : w.ownsRow base' e size v n xs := by
  refine ⟨h.1, ?_⟩
  rcases h.2 with h' | ⟨g, cap, cur, h1, h2, h3⟩
  · exact .inl h'
  · exact .inr ⟨g, cap, cur, h1, by omega, h3⟩
/-- A row of the call's own has a slice's value; its cells lie where it leads. -/
theorem own_slice {w : World} {base : Nat} {e : TypeId} {n : Nat} {v : Value} {xs : List Value} (h : w.ownsRow base e 1 v n xs) : ∃ A c, v = .slice A n c ∧ Row w w.heap.size A xs := by
  rcases h.2 with ⟨rfl, rfl⟩ | ⟨g, cap, cur, rfl, h2, h3⟩
  · have : xs = [] := List.eq_nil_of_length_eq_zero (by simpa using h.1)
    subst this
    exact ⟨none, 0, rfl, Row.nil⟩
  · exact ⟨some ⟨g, 0, none⟩, cap, rfl, Row.of_own (c := cap) h⟩
/-- Numbers that fit a byte are bytes. -/
theorem bytes_of {zs : List Int} (h : ∀ n ∈ zs, (Lit.int .u8 n).wf = true) : ∃ bs : List Nat, zs = bs.map (fun d : Nat => (d : Int)) ∧ ∀ z ∈ bs, z < 256 := by
  induction zs with
  | nil => exact ⟨[], rfl, fun z hz => by simp at hz⟩
  | cons x zs ih =>
    obtain ⟨bs, rfl, hb⟩ := ih fun n hn => h n (List.mem_cons_of_mem _ hn)
    have hx := bounds_u8 (h x (List.mem_cons_self ..))
    refine ⟨x.toNat :: bs, by simp; omega, fun z hz => ?_⟩
    rcases List.mem_cons.1 hz with rfl | hz
    · omega
    · exact hb z hz
/-- A string is the string of its bytes. -/
def sb (s : ByteArray) : List Nat := s.data.toList.map UInt8.toNat
theorem bstr_of (s : ByteArray) : bstr (sb s) = s := by
  apply ByteArray.ext
  simp only [bstr, sb, List.map_map]
  have e : (UInt8.ofNat ∘ UInt8.toNat) = id := by funext x; simp
  rw [e, List.map_id]
theorem sb_len (s : ByteArray) : (sb s).length = s.size := by simp [sb]
theorem bstr_app (a b : List Nat) : bstr (a ++ b) = bstr a ++ bstr b := by
  apply ByteArray.ext
  simp [bstr]
theorem ret_sb {a b : ByteArray} {t : Bool} (h : a = b) : Ending.returned (.tuple #[.string a, .bool t]) = .returned (.tuple #[.string b, .bool t]) := by rw [h]
end Go.Proofs.YtajmbnimdngjhaaGreatDoor
