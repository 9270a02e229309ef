/-
  The table of operations that the program builds. No conditions.
-/
import Derived.Test.YtffkdidgfeknkaaGreatDoorInstrV
import Derived.Laws.EntriesVeiled
import Derived.Deep.WholeRow
import Derived.Great.BuildSlice
namespace Go.Proofs.YtffkdidgfeknkaaGreatDoor
set_option linter.unusedVariables false
open Go.RowKit

def opsV : Array Value := #[.string ⟨#[112, 117, 115, 104]⟩, .int .i64 (-1000000), .int .i64 1000000, .int .i64 0, .int .i64 1, .func (Fn.func 99) #[] #[], .string ⟨#[108, 111, 97, 100]⟩, .int .i64 0, .int .i64 3, .int .i64 0, .int .i64 1, .func (Fn.func 100) #[] #[], .string ⟨#[115, 116, 111, 114, 101]⟩, .int .i64 0, .int .i64 3, .int .i64 1, .int .i64 0, .func (Fn.func 101) #[] #[], .string ⟨#[97, 100, 100]⟩, .int .i64 0, .int .i64 0, .int .i64 2, .int .i64 1, .func (Fn.func 102) #[] #[], .string ⟨#[115, 99, 97, 108, 101]⟩, .int .i64 (-1000000), .int .i64 1000000, .int .i64 1, .int .i64 1, .func (Fn.func 103) #[] #[], .string ⟨#[106, 117, 109, 112]⟩, .int .i64 0, .int .i64 79, .int .i64 0, .int .i64 0, .func (Fn.func 104) #[] #[], .string ⟨#[116, 101, 115, 116]⟩, .int .i64 0, .int .i64 79, .int .i64 1, .int .i64 0, .func (Fn.func 105) #[] #[], .string ⟨#[103, 101, 116]⟩, .int .i64 0, .int .i64 0, .int .i64 1, .int .i64 1, .func (Fn.func 106) #[] #[], .string ⟨#[112, 117, 116]⟩, .int .i64 0, .int .i64 0, .int .i64 2, .int .i64 0, .func (Fn.func 107) #[] #[], .string ⟨#[101, 109, 105, 116]⟩, .int .i64 0, .int .i64 3, .int .i64 0, .int .i64 0, .func (Fn.func 108) #[] #[], .string ⟨#[99, 104, 101, 99, 107]⟩, .int .i64 0, .int .i64 0, .int .i64 1, .int .i64 0, .func (Fn.func 109) #[] #[], .string ⟨#[104, 97, 108, 116]⟩, .int .i64 0, .int .i64 0, .int .i64 0, .int .i64 0, .func (Fn.func 110) #[] #[]]
theorem results_cell_one {fn : Func} {p : Tmp} {ty : TypeId} (h : fn.results = #[.cell p ty]) (tmps : Array Value) (P : Program) (w : World) :
    (results fn tmps).run P w = ((asAddr (tmps.getD p undef)).run P w).andThen fun a w₁ => (loadVar ty a).run P w₁ := by
  simp only [results, h]
  simp [Sem.run_bind, Result.andThen]
theorem results_ops (w : World) (c : Array Value) (hi : (Tryz.prog.info? 138).map (·.size) = some c.size) (tmps : Array Value) (ht : tmps.getD 0 undef = .pointer (some ⟨w.heap.size, 0, none⟩)) :
    (results Tryz.f95 tmps).run Tryz.prog (w.alloc (.cells c 138)) = .ok (.agg c) (w.alloc (.cells c 138)) := by
  rw [results_cell_one rfl, ht]
  simp [asAddr, Result.andThen]
  exact run_loadVar_new (P := Tryz.prog) w 138 c 12 126 Tryz.underlying138 hi

set_option maxRecDepth 100000 in
set_option maxHeartbeats 4000000 in
theorem operations_c (w : World) :
    Calls Tryz.prog 95 #[] w fun e w' => e = .returned (.agg opsV) ∧ Below w.heap.size w w' := by
  have hk : (Tryz.prog.info? 138).map (·.size) = some opsV.size := by kernel_rfl
  go_enter Tryz.func95, Tryz.ntmps95
  go_wp2_with (first
    | (refine wpList_buildTo rfl 138 _ rfl (some 13) rfl opsV (by kernel_rfl) ?_)
    | (refine wpList_store_rowTo rfl 138 _ _ rfl rfl w.heap.size opsV rfl rfl 138 _ (heap_alloc_last w _) hk (by kernel_rfl) (by kernel_rfl) ?_; rw [World.setRow_alloc_new]))
  exact bodyPost_ret (results_ops w opsV hk _ rfl) rfl ⟨rfl, bnew _ _⟩
end Go.Proofs.YtffkdidgfeknkaaGreatDoor
