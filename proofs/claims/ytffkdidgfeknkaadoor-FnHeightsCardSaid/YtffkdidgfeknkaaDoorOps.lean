/-
  The table of operations that the program builds. No conditions.
-/
import Derived.Test.YtffkdidgfeknkaaDoorInstrV
import Derived.Laws.EntriesVeiled
import Derived.Deep.WholeRow
import Derived.Great.BuildSlice
namespace Go.Proofs.YtffkdidgfeknkaaDoor
set_option linter.unusedVariables false
open Go.RowKit

def opsV : Array Value := #[.string ⟨#[112, 117, 115, 104]⟩, .int .i64 (-1000000), .int .i64 1000000, .int .i64 0, .int .i64 1, .func (Fn.func 110) #[] #[], .string ⟨#[108, 111, 97, 100]⟩, .int .i64 0, .int .i64 3, .int .i64 0, .int .i64 1, .func (Fn.func 111) #[] #[], .string ⟨#[115, 116, 111, 114, 101]⟩, .int .i64 0, .int .i64 3, .int .i64 1, .int .i64 0, .func (Fn.func 112) #[] #[], .string ⟨#[97, 100, 100]⟩, .int .i64 0, .int .i64 0, .int .i64 2, .int .i64 1, .func (Fn.func 113) #[] #[], .string ⟨#[115, 99, 97, 108, 101]⟩, .int .i64 (-1000000), .int .i64 1000000, .int .i64 1, .int .i64 1, .func (Fn.func 114) #[] #[], .string ⟨#[106, 117, 109, 112]⟩, .int .i64 0, .int .i64 79, .int .i64 0, .int .i64 0, .func (Fn.func 115) #[] #[], .string ⟨#[116, 101, 115, 116]⟩, .int .i64 0, .int .i64 79, .int .i64 1, .int .i64 0, .func (Fn.func 116) #[] #[], .string ⟨#[103, 101, 116]⟩, .int .i64 0, .int .i64 0, .int .i64 1, .int .i64 1, .func (Fn.func 117) #[] #[], .string ⟨#[112, 117, 116]⟩, .int .i64 0, .int .i64 0, .int .i64 2, .int .i64 0, .func (Fn.func 118) #[] #[], .string ⟨#[101, 109, 105, 116]⟩, .int .i64 0, .int .i64 3, .int .i64 0, .int .i64 0, .func (Fn.func 119) #[] #[], .string ⟨#[99, 104, 101, 99, 107]⟩, .int .i64 0, .int .i64 0, .int .i64 1, .int .i64 0, .func (Fn.func 120) #[] #[], .string ⟨#[104, 97, 108, 116]⟩, .int .i64 0, .int .i64 0, .int .i64 0, .int .i64 0, .func (Fn.func 121) #[] #[]]
theorem results_cell_one {fn : Func} {p : Tmp} {ty : TypeId} (h : fn.results = #[.cell p ty]) (tmps : Array Value) (P : Program) (w : World) :
    (results fn tmps).run P w = ((asAddr (tmps.getD p undef)).run P w).andThen fun a w₁ => (loadVar ty a).run P w₁ := by
  simp only [results, h]
  simp [Sem.run_bind, Result.andThen]
theorem results_ops (w : World) (c : Array Value) (hi : (Tryd.prog.info? 153).map (·.size) = some c.size) (tmps : Array Value) (ht : tmps.getD 0 undef = .pointer (some ⟨w.heap.size, 0, none⟩)) :
    (results Tryd.f100 tmps).run Tryd.prog (w.alloc (.cells c 153)) = .ok (.agg c) (w.alloc (.cells c 153)) := by
  rw [results_cell_one rfl, ht]
  simp [asAddr, Result.andThen]
  exact run_loadVar_new (P := Tryd.prog) w 153 c 12 121 Tryd.underlying153 hi

set_option maxRecDepth 100000 in
set_option maxHeartbeats 4000000 in
theorem operations_c (w : World) :
    Calls Tryd.prog 100 #[] w fun e w' => e = .returned (.agg opsV) ∧ Below w.heap.size w w' := by
  have hk : (Tryd.prog.info? 153).map (·.size) = some opsV.size := by kernel_rfl
  go_enter Tryd.func100, Tryd.ntmps100
  go_wp2_with (first
    | (refine wpList_buildTo rfl 153 _ rfl (some 13) rfl opsV (by kernel_rfl) ?_)
    | (refine wpList_store_rowTo rfl 153 _ _ rfl rfl w.heap.size opsV rfl rfl 153 _ (heap_alloc_last w _) hk (by kernel_rfl) (by kernel_rfl) ?_; rw [World.setRow_alloc_new]))
  exact bodyPost_ret (results_ops w opsV hk _ rfl) rfl ⟨rfl, bnew _ _⟩
end Go.Proofs.YtffkdidgfeknkaaDoor
