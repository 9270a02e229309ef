/-
  attempt at []int64: what StackHeights$1 returns, or false where it panics. No conditions.
-/
import Derived.Test.YtffkdidgfeknkaaGreatDoorBlk
import Derived.Test.YtffkdidgfeknkaaGreatDoorOwn
import Derived.Tactics
import Derived.Tactics2
import Derived.Defers
import Derived.Recover
import Derived.Laws.Pointers
namespace Go.Proofs.YtffkdidgfeknkaaGreatDoor
set_option linter.unusedVariables false
open Go.RowKit

theorem catch_stuck (p : Addr) (x : Bool) (u : TypeId) (pv : Value) (older : List PanicEntry) (w : World) (hc : w.cell? p = some (.bool x)) (hz : w.frozen? p = false) :
    CallsD Tryz.prog 86 #[.pointer (some p)] (.panicking ({ v := .iface u pv, recovered := false } :: older)) w fun e u' w' =>
      e = .returned (.tuple #[]) ∧ u' = .panicking ({ v := .iface u pv, recovered := true } :: older) ∧ w' = w.setCell p (.bool false) := by
  refine callsD_of_wpS Tryz.func86 rfl fun c₀ cs hu => ?_
  apply wpS_region
  simp [wpOpsS, go_sem, recoverD, hu, Tryz.ntmps86, hc, hz, bodyPostS, results, Tryz.results86]
theorem catch_none (p : Addr) (x : Bool) (w : World) (hc : w.cell? p = some (.bool x)) (hz : w.frozen? p = false) :
    CallsD Tryz.prog 86 #[.pointer (some p)] .returning w fun e u' w' => e = .returned (.tuple #[]) ∧ u' = .returning ∧ w' = w.setCell p (.bool true) := by
  refine callsD_of_wpS Tryz.func86 rfl fun c₀ cs hu => ?_
  apply wpS_region
  simp [wpOpsS, go_sem, recoverD, hu, Tryz.ntmps86, hc, hz, bodyPostS, results, Tryz.results86]
  cases c₀
  simp_all

set_option maxRecDepth 100000 in
set_option maxHeartbeats 4000000 in
theorem attempt_no (q : Addr) (tp : TypeId) (pv : Value) (N : Prop) (w : World) (h : Calls Tryz.prog 59 #[.pointer (some q)] (w.alloc (.cells #[.bool false] 4)) fun e w' => e = .panicked [{ v := .iface tp pv, recovered := false }] ∧ N ∧ Below (w.heap.size + 1) (w.alloc (.cells #[.bool false] 4)) w') :
    Calls Tryz.prog 58 #[.func (.func 59) #[] #[.pointer (some q)]] w fun e w' => e = .returned (.tuple #[.slice none 0 0, .bool false]) ∧ N ∧ Below w.heap.size w w' := by
  have hmf : ∀ (fn : Fn) (first cap : Array Value) (w : World), (Instr.makeFunc fn first cap).run Tryz.prog w = .ok (.func fn first cap) w := fun _ _ _ _ => rfl
  have HH := Lib.hid h
  clear h
  go_enter_defers Tryz.func58, Tryz.ntmps58
  go_wp2_with (go_at_call 59; refine HH.out.mono ?_; rintro e w1 ⟨rfl, hN, hb⟩)
  have hK : BlkIs w1 w.heap.size 4 #[.bool false] := (hb.block w.heap.size (Nat.lt_succ_self _)).trans (heap_alloc_new w _)
  have hc : w1.cell? ⟨w.heap.size, 0, none⟩ = some (.bool false) := hK.cell 0
  have hz := hK.frozen 0
  have hK2 := hK.set 0 (.bool false)
  have HN := Lib.hid hN
  refine leaves_cons (f := 86) (args := #[.pointer (some ⟨w.heap.size, 0, none⟩)]) (by simp) (by simp [go_sem]) ?_
  refine (catch_stuck ⟨w.heap.size, 0, none⟩ false tp pv [] w1 hc hz).mono ?_
  rintro e u' w'' ⟨rfl, rfl, rfl⟩
  have hbb : Below w.heap.size w (w1.setCell ⟨w.heap.size, 0, none⟩ (.bool false)) := ((bnew w (.cells #[.bool false] 4)).trans (hb.mono (Nat.le_succ _))).setCell (p := ⟨w.heap.size, 0, none⟩) (Nat.le_refl _) _
  have hc2 : (w1.setCell ⟨w.heap.size, 0, none⟩ (.bool false)).cell? ⟨w.heap.size, 0, none⟩ = some (.bool false) := hK2.cell 0
  have HB := Lib.hid hbb
  clear hbb hc hz hb hN hK hK2
  simp [Leaves, settle, results, Tryz.results58, go_sem, hc2]
  exact ⟨HN.out, HB.out⟩

set_option maxRecDepth 100000 in
set_option maxHeartbeats 4000000 in
theorem attempt_yes (q : Addr) (R : Value → World → Prop) (w : World) (h : Calls Tryz.prog 59 #[.pointer (some q)] (w.alloc (.cells #[.bool false] 4)) fun e w' => ∃ v, e = .returned v ∧ R v w' ∧ Below (w.heap.size + 1) (w.alloc (.cells #[.bool false] 4)) w') :
    Calls Tryz.prog 58 #[.func (.func 59) #[] #[.pointer (some q)]] w fun e w' => ∃ v w0, e = .returned (.tuple #[v, .bool true]) ∧ R v w0 ∧ Below (w.heap.size + 1) (w.alloc (.cells #[.bool false] 4)) w0 ∧ w' = (w0.setCell ⟨w.heap.size, 0, none⟩ (.bool true)).setCell ⟨w.heap.size, 0, none⟩ (.bool true) := by
  have hmf : ∀ (fn : Fn) (first cap : Array Value) (w : World), (Instr.makeFunc fn first cap).run Tryz.prog w = .ok (.func fn first cap) w := fun _ _ _ _ => rfl
  have HH := Lib.hid h
  clear h
  go_enter_defers Tryz.func58, Tryz.ntmps58
  go_wp2_with (go_at_call 59; refine HH.out.mono ?_; (rintro e w1 ⟨v, rfl, hr, hb⟩); (have hK : BlkIs w1 w.heap.size 4 #[.bool false] := (hb.block w.heap.size (Nat.lt_succ_self _)).trans (heap_alloc_new w _)); (have hc : w1.cell? ⟨w.heap.size, 0, none⟩ = some (.bool false) := hK.cell 0); (have hz := hK.frozen 0); (have HR := Lib.hid hr); (have HB := Lib.hid hb); clear hr hb)
  have hz2 : (w1.setCell ⟨w.heap.size, 0, none⟩ (.bool true)).frozen? ⟨w.heap.size, 0, none⟩ = false := (hK.set 0 (.bool true)).frozen 0
  have hc1 : (w1.setCell ⟨w.heap.size, 0, none⟩ (.bool true)).cell? ⟨w.heap.size, 0, none⟩ = some (.bool true) := (hK.set 0 (.bool true)).cell 0
  have hc2 : ((w1.setCell ⟨w.heap.size, 0, none⟩ (.bool true)).setCell ⟨w.heap.size, 0, none⟩ (.bool true)).cell? ⟨w.heap.size, 0, none⟩ = some (.bool true) := ((hK.set 0 (.bool true)).set 0 (.bool true)).cell 0
  refine leaves_cons (f := 86) (args := #[.pointer (some ⟨w.heap.size, 0, none⟩)]) (by simp) (by simp [go_sem]) ?_
  refine (catch_none ⟨w.heap.size, 0, none⟩ true _ hc1 hz2).mono ?_
  rintro e u' w'' ⟨rfl, rfl, rfl⟩
  clear hc hz hz2 hc1 hK
  simp [Leaves, settle, results, Tryz.results58, go_sem, hc2]
  exact ⟨w1, HR.out, HB.out, rfl⟩
end Go.Proofs.YtffkdidgfeknkaaGreatDoor
