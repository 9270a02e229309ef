/-
  Terms as numbers: a whole number and a list of coefficients. Where a list of terms lies in memory; what a term that came in reads as. No conditions.
-/
import Derived.Test.YtajmbnimdngjhaaGreatDoorBase
import Derived.Test.YtajmbnimdngjhaaGreatDoorKeep
import Derived.Deep.Slices
import Derived.Deep.Fields
import Derived.Lib.SmallJoins
import Derived.ChangeSame
namespace Go.Proofs.YtajmbnimdngjhaaGreatDoor
open Go.RowKit Go.ChangeShapes Go.WideShapes Go.Deep Go.Joins

/-- A term's value leads to its coefficients, which lie below block B. -/
def TmIn (w : World) (B : Nat) (v : Value) (t : Int × List Int) : Prop := ∃ A n c, v = .agg #[.int .i64 t.1, .slice A n c] ∧ t.2.length = n ∧ Row w B A (t.2.map ic)
/-- Terms lie side by side where a slice's value leads, below block B; two cells each. -/
def TRow (w : World) (B : Nat) (A : Option Addr) (ts : List (Int × List Int)) : Prop :=
  ∀ j t, ts[j]? = some t → ∃ b off A' n' c', A = some ⟨b, off, none⟩ ∧ b < B ∧ w.cell? ⟨b, off + j * 2, none⟩ = some (.int .i64 t.1) ∧ w.cell? ⟨b, off + j * 2 + 1, none⟩ = some (.slice A' n' c') ∧ t.2.length = n' ∧ Row w B A' (t.2.map ic)

section
variable {w w' : World} {B B' : Nat} {A : Option Addr} {ts : List (Int × List Int)} {v : Value} {t : Int × List Int}
theorem TmIn.below (h : TmIn w B v t) (hb : Below B' w w') (hB : B ≤ B') : TmIn w' B v t := by
  obtain ⟨A, n, c, e, hl, hr⟩ := h
  exact ⟨A, n, c, e, hl, hr.below hb hB⟩
theorem TmIn.more (h : TmIn w B v t) (hB : B ≤ B') : TmIn w B' v t := by
  obtain ⟨A, n, c, e, hl, hr⟩ := h
  exact ⟨A, n, c, e, hl, hr.more hB⟩
theorem TRow.below (h : TRow w B A ts) (hb : Below B' w w') (hB : B ≤ B') : TRow w' B A ts := fun j t hj => by
  obtain ⟨b, off, A', n', c', e, hlt, h1, h2, hl, hr⟩ := h j t hj
  exact ⟨b, off, A', n', c', e, hlt, (hb.cell (p := ⟨b, _, none⟩) (by show b < B'; omega)).trans h1, (hb.cell (p := ⟨b, _, none⟩) (by show b < B'; omega)).trans h2, hl, hr.below hb hB⟩
theorem TRow.more (h : TRow w B A ts) (hB : B ≤ B') : TRow w B' A ts := fun j t hj => by
  obtain ⟨b, off, A', n', c', e, hlt, h1, h2, hl, hr⟩ := h j t hj
  exact ⟨b, off, A', n', c', e, by omega, h1, h2, hl, hr.more hB⟩
theorem TRow.nil : TRow w B A [] := fun j t hj => by simp at hj
end

/-! A world with new blocks; what lay below them. -/
section
variable {w w' : World} {B B' : Nat} {A : Option Addr} {o : Obj}
theorem le_alloc (h : B ≤ w.heap.size) : B ≤ (w.alloc o).heap.size := by simp; omega
theorem Row.alloc {xs : List Value} (h : Row w B A xs) (hB : B ≤ w.heap.size) : Row (w.alloc o) B A xs := h.below ((Below.refl B w).alloc hB o) (Nat.le_refl _)
theorem Row.drawn {xs : List Value} (h : Row w B A xs) (d : Nat) : Row (w.drewN d) B A xs := h
theorem TRow.drawn {ts : List (Int × List Int)} (h : TRow w B A ts) (d : Nat) : TRow (w.drewN d) B A ts := h
theorem TRow.alloc {ts : List (Int × List Int)} (h : TRow w B A ts) (hB : B ≤ w.heap.size) : TRow (w.alloc o) B A ts := h.below ((Below.refl B w).alloc hB o) (Nat.le_refl _)
/-- What the walk is told behind a step that turns nothing below the world as it was. -/
theorem as_was (hb : Below w.heap.size w w') : (∀ b i, b < w.heap.size → w'.cell? ⟨b, i, none⟩ = w.cell? ⟨b, i, none⟩) ∧ ∀ b i, b < w.heap.size → w'.frozen? ⟨b, i, none⟩ = w.frozen? ⟨b, i, none⟩ :=
  ⟨fun b i h => hb.cell (p := ⟨b, i, none⟩) h, fun b i h => hb.frozen (p := ⟨b, i, none⟩) h⟩
/-- A cell behind a draw and a call; behind a second one. -/
theorem cell_on {w w1 : World} {b o : Nat} {v : Value} (hc : w.cell? ⟨b, o, none⟩ = some v) (h : Below w.drew.heap.size w.drew w1) : w1.cell? ⟨b, o, none⟩ = some v := by
  have h1 : w.drew.cell? ⟨b, o, none⟩ = some v := hc
  exact (h.cell (p := ⟨b, o, none⟩) (cell_lt h1)).trans h1
theorem cell_next {w w1 : World} {b o : Nat} {v : Value} (hc : w.cell? ⟨b, o, none⟩ = some v) (h : Below w.heap.size w w1) : w1.cell? ⟨b, o, none⟩ = some v :=
  (h.cell (p := ⟨b, o, none⟩) (cell_lt hc)).trans hc
theorem cell_on2 {w w1 w2 : World} {b o : Nat} {v : Value} (hc : w.cell? ⟨b, o, none⟩ = some v) (h : Below w.drew.heap.size w.drew w1) (h2 : Below w1.heap.size w1 w2) : w2.cell? ⟨b, o, none⟩ = some v := cell_next (cell_on hc h) h2
end

/-! What came in. -/
section
variable {H : Type} {enc : TypeId × Value → H} {w : World} {held : Bool}
theorem row_of_ints {k : IntKind} {a : Addr} {zs : List Int} {len : Nat} (hl : len ≤ zs.length) (hcell : ∀ i, i < zs.length → w.cell? (a.add i) = some (.int k (zs.getD i 0))) :
    Row w w.heap.size (some a) ((zs.take len).map (Value.int k)) := fun j hj => by
  rw [List.length_map, List.length_take] at hj
  have hc := hcell j (by omega)
  obtain ⟨b, off, spot⟩ := a
  have hspot : spot = none := by simpa [Addr.add] using World.cell?_spot (hcell 0 (by omega))
  subst hspot
  have ha : (⟨b, off, none⟩ : Addr).add j = ⟨b, off + j, none⟩ := by unfold Addr.add; split <;> simp_all
  rw [ha] at hc
  refine ⟨b, off, rfl, cell_lt hc, ?_⟩
  rw [hc, List.getElem?_map, List.getElem?_take, if_pos (by omega), List.getElem?_eq_getElem (by omega)]
  simp [List.getD, List.getElem?_eq_getElem (show j < zs.length by omega)]

/-- The coefficients that a slice's cell reads as. -/
theorem ints_in {t e : TypeId} {fuel : Nat} {v : Value} {x : DataW H × List MemPlace} (ht : Tryz.prog.underlying t = some (.slice e)) (he : Tryz.prog.underlying e = some (.int .i64)) (hc : Tryz.prog.cellsOf e = 1)
    (h : DataW.trod enc Tryz.prog w 0 (fun _ => true) held fuel t [v] = some x) :
    ∃ (A : Option Addr) (n c : Nat) (zs : List Int), v = .slice A n c ∧ zs.length = n ∧ n ≤ maxLen ∧ Row w w.heap.size A (zs.map ic) ∧ ∀ z ∈ zs, (Lit.int .i64 z).wf = true := by
  rcases open_ints ht he hc h with ⟨hcs, _⟩ | ⟨a, len, cap, zs, hcs, _, hl, hm, hz, _, hcell, hwz⟩
  · obtain rfl : v = .slice none 0 0 := by simpa using hcs
    exact ⟨none, 0, 0, [], rfl, rfl, Nat.zero_le _, Row.nil, fun z hz => by simp at hz⟩
  · obtain rfl : v = .slice (some a) len cap := by simpa using hcs
    have hz' : zs.length = cap := by simpa using hz
    have hz2 : len ≤ zs.length := by omega
    exact ⟨some a, len, cap, zs.take len, rfl, by rw [List.length_take]; omega, by omega, row_of_ints hz2 hcell, fun z hz => hwz z (List.mem_of_mem_take hz)⟩

theorem cells2 {t : TypeId} {f0 f1 : Field} {fuel : Nat} {c0 c1 : Value} {x : DataW H × List MemPlace} (hs : Tryz.prog.underlying t = some (.struct #[f0, f1])) (hone : oneCellFields Tryz.prog #[f0, f1] = true)
    (h : DataW.trod enc Tryz.prog w 0 (fun _ => true) held fuel t [c0, c1] = some x) :
    ∃ y0 y1 m, DataW.trod enc Tryz.prog w 0 (fun _ => true) held m f0.type [c0] = some y0 ∧ DataW.trod enc Tryz.prog w 0 (fun _ => true) held m f1.type [c1] = some y1 := by
  obtain ⟨y0, y1, n, _, _, h0, h1⟩ := trod_struct2 hs h
  obtain ⟨o0, k0⟩ := hone_of hone 0 f0 rfl
  obtain ⟨o1, k1⟩ := hone_of hone 1 f1 rfl
  exact ⟨y0, y1, n, by simpa [o0, k0] using h0, by simpa [o1, k1] using h1⟩
/-- A term's two cells, as they read. -/
theorem term_cells {fuel : Nat} {cs : List Value} {x : DataW H × List MemPlace} (hc : cs.length = 2) (h : DataW.trod enc Tryz.prog w 0 (fun _ => true) held fuel 106 cs = some x) :
    ∃ (c : Int) (A : Option Addr) (n cap : Nat) (zs : List Int), cs = [.int .i64 c, .slice A n cap] ∧ zs.length = n ∧ n ≤ maxLen ∧ Row w w.heap.size A (zs.map ic) ∧ (Lit.int .i64 c).wf = true ∧ ∀ z ∈ zs, (Lit.int .i64 z).wf = true := by
  match cs, hc with
  | [c0, c1], _ =>
    obtain ⟨y0, y1, m, h0, h1⟩ := cells2 Tryz.underlying106 (by kernel_rfl) h
    have h0' : DataW.trod enc Tryz.prog w 0 (fun _ => true) held m 2 [c0] = some y0 := h0
    have h1' : DataW.trod enc Tryz.prog w 0 (fun _ => true) held m 26 [c1] = some y1 := h1
    obtain ⟨z, e0, _, wz⟩ := DataW.trod_int Tryz.underlying2 h0'
    obtain ⟨A, n, cap, zs, rfl, hl, hm, hr, hw⟩ := ints_in Tryz.underlying26 Tryz.underlying2 (by kernel_rfl) h1'
    obtain rfl : c0 = .int .i64 z := by simpa using e0
    exact ⟨z, A, n, cap, zs, rfl, hl, hm, hr, wz, hw⟩
theorem cellsTerm : Tryz.prog.cellsOf 106 = 2 := by kernel_rfl
set_option maxRecDepth 100000 in
/-- A term that came in. -/
theorem term_in {r : Reach} {b0 : Nat} {v : Value} {d : DataW H} {p : List MemPlace} (hv : Value.okWide Tryz.prog w r b0 106 v) (h : DataW.Trod enc Tryz.prog w 0 (fun _ => true) held 106 v d p) :
    ∃ (c : Int) (A : Option Addr) (n cap : Nat) (zs : List Int), v = .agg #[.int .i64 c, .slice A n cap] ∧ zs.length = n ∧ n ≤ maxLen ∧ Row w w.heap.size A (zs.map ic) ∧ (Lit.int .i64 c).wf = true ∧ ∀ z ∈ zs, (Lit.int .i64 z).wf = true := by
  obtain ⟨cs, rfl, hsz⟩ := okWide_struct Tryz.underlying106 hv
  have h2 : cs.toList.length = 2 := by rw [cellsTerm] at hsz; simpa using hsz
  obtain ⟨fuel, hf⟩ := h
  have hf' : DataW.trod enc Tryz.prog w 0 (fun _ => true) held fuel 106 cs.toList = some (d, p) := by simpa [Value.cells] using hf
  obtain ⟨c, A, n, cap, zs, e, h1⟩ := term_cells h2 hf'
  obtain rfl : cs = #[.int .i64 c, .slice A n cap] := by rw [← Array.toList_inj, e]
  exact ⟨c, A, n, cap, zs, rfl, h1⟩
end
end Go.Proofs.YtajmbnimdngjhaaGreatDoor
