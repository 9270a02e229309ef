/-
  What a list of terms, and a sequent, that came in read as. No conditions.
-/
import Derived.Test.YtajmbnimdngjhaaGreatDoorTm
namespace Go.Proofs.YtajmbnimdngjhaaGreatDoor
open Go.RowKit Go.ChangeShapes Go.WideShapes Go.Deep Go.Joins

section
variable {H : Type} {enc : TypeId × Value → H} {w : World} {held : Bool}
theorem terms_in {fuel : Nat} {v : Value} {x : DataW H × List MemPlace} (h : DataW.trod enc Tryz.prog w 0 (fun _ => true) held fuel 22 [v] = some x) :
    ∃ (A : Option Addr) (n c : Nat) (ts : List (Int × List Int)), v = .slice A n c ∧ ts.length = n ∧ n ≤ maxLen ∧ TRow w w.heap.size A ts ∧ ∀ t ∈ ts, t.2.length ≤ maxLen := by
  rcases open_slice Tryz.underlying22 h with ⟨hcs, _⟩ | ⟨a, len, cap, m, n, D, Pl, hcs, _, hl, hm, hmm, _, hx⟩
  · obtain rfl : v = .slice none 0 0 := by simpa using hcs
    exact ⟨none, 0, 0, [], rfl, rfl, Nat.zero_le _, TRow.nil, fun t ht => by simp at ht⟩
  · obtain rfl : v = .slice (some a) len cap := by simpa using hcs
    have hc2 : Tryz.prog.cellsOf 106 = 2 := by kernel_rfl
    rw [hc2] at hx
    have hm' : m = cap := by simpa using hmm
    obtain ⟨f, hf⟩ := choose_lt (α := Int × List Int) (n := len) (p := fun i t => ∃ (A' : Option Addr) (n' c' : Nat), w.cell? ((a.add (i * 2)).add 0) = some (.int .i64 t.1) ∧ w.cell? ((a.add (i * 2)).add 1) = some (.slice A' n' c') ∧ t.2.length = n' ∧ n' ≤ maxLen ∧ Row w w.heap.size A' (t.2.map ic)) (fun i hi => by
      obtain ⟨cs', hc, ht⟩ := hx i (by omega)
      obtain ⟨_, hlen, hat⟩ := World.cells?_some hc
      obtain ⟨c, A', n', c', zs, rfl, h1, h2, h3, _⟩ := term_cells hlen ht
      exact ⟨(c, zs), A', n', c', hat 0 (by omega), hat 1 (by omega), h1, h2, h3⟩)
    refine ⟨some a, len, cap, (List.range len).map f, rfl, by simp, by omega, fun j t hj => ?_, fun t ht => ?_⟩
    · have hjl : j < len := by
        have := (List.getElem?_eq_some_iff.1 hj).1
        simpa using this
      obtain rfl : f j = t := by simpa [hjl] using hj
      obtain ⟨A', n', c', h1, h2, h3, _, h5⟩ := hf j hjl
      obtain ⟨_, _, _, g1, _⟩ := hf 0 (by omega)
      have hs : a.spot = none := by simpa [Addr.add] using World.cell?_spot g1
      obtain ⟨b, off, spot⟩ := a
      have hs' : spot = none := hs
      subst hs'
      rw [add_plain, add_plain] at h1 h2
      exact ⟨b, off, A', n', c', rfl, cell_lt h1, h1, h2, h3, h5⟩
    · obtain ⟨i, hi, rfl⟩ := List.mem_map.1 ht
      obtain ⟨_, _, _, _, _, h3, h4, _⟩ := hf i (by simpa using hi)
      omega
theorem cells12 {t : TypeId} {f0 f1 : Field} {fuel : Nat} {c0 c1 c2 : Value} {x : DataW H × List MemPlace} (hs : Tryz.prog.underlying t = some (.struct #[f0, f1])) (o0 : f0.offset = 0) (k0 : Tryz.prog.cellsOf f0.type = 1) (o1 : f1.offset = 1) (k1 : Tryz.prog.cellsOf f1.type = 2)
    (h : DataW.trod enc Tryz.prog w 0 (fun _ => true) held fuel t [c0, c1, c2] = some x) :
    ∃ y0 y1 m, DataW.trod enc Tryz.prog w 0 (fun _ => true) held m f0.type [c0] = some y0 ∧ DataW.trod enc Tryz.prog w 0 (fun _ => true) held m f1.type [c1, c2] = some y1 := by
  obtain ⟨y0, y1, n, _, _, h0, h1⟩ := trod_struct2 hs h
  exact ⟨y0, y1, n, by simpa [o0, k0] using h0, by simpa [o1, k1] using h1⟩
end
end Go.Proofs.YtajmbnimdngjhaaGreatDoor
