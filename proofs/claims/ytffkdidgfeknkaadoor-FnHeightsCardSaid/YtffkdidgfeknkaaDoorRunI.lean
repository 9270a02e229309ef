/-
  The program's run of code (the machine behind its last step, what it has executed, how it ends) and its CountCode (how often each instruction is executed). Conditions: at most 2^20 instructions and numbers.
-/
import Derived.Test.YtffkdidgfeknkaaDoorStepI
import Derived.Test.YtffkdidgfeknkaaDoorRunC
import Derived.WalkMore
namespace Go.Proofs.YtffkdidgfeknkaaDoor
set_option linter.unusedVariables false
open Go.RowKit

/-- A run in memory: twenty numbers of the machine, what is executed, how it ends. -/
def rc (L : List Int) (E : Value) (o : Int) : Array Value := (L.map ic ++ [E, .int .i64 o]).toArray
theorem rc_size {L : List Int} {E : Value} {o : Int} (h : L.length = 20) : (rc L E o).size = 22 := by unfold rc; simp [h]
theorem rc_one {L : List Int} {E : Value} {o : Int} (hE : E.oneCell' = true) : (rc L E o).all (·.oneCell') = true := by
  unfold rc
  rw [Array.all_eq_true']
  intro v hv
  have hv' : v ∈ L.map ic ++ [E, .int .i64 o] := by simpa using hv
  rcases List.mem_append.1 hv' with h | h
  · obtain ⟨x, _, rfl⟩ := List.mem_map.1 h; rfl
  · rcases List.mem_cons.1 h with rfl | h
    · exact hE
    · obtain rfl : v = .int .i64 o := by simpa using h
      rfl
theorem rc_exec {L : List Int} {E : Value} {o : Int} (h : L.length = 20) : (rc L E o)[20]? = some E := by unfold rc; simp [h]
theorem rc_out {L : List Int} {E : Value} {o : Int} (h : L.length = 20) : (rc L E o)[21]? = some (.int .i64 o) := by unfold rc; simp [h]
theorem rc_at {L : List Int} {E : Value} {o : Int} {i : Nat} {x : Int} (h : L[i]? = some x) : (rc L E o)[i]? = some (.int .i64 x) := by
  have hi := (List.getElem?_eq_some_iff.1 h).1
  unfold rc
  rw [List.getElem?_toArray, List.getElem?_append_left (by rw [List.length_map]; exact hi), List.getElem?_map, h]
  rfl
theorem rc_range {w : World} {g : Nat} {L : List Int} {E : Value} {o : Int} (hB : BlkIs w g 96 (rc L E o)) : w.rangeAt g 0 (L.map ic) := fun j v hj => by
  have hi := (List.getElem?_eq_some_iff.1 hj).1
  rw [Nat.zero_add, hB.cell]
  unfold rc
  rw [List.getElem?_toArray, List.getElem?_append_left hi, hj]
theorem rc_setE {L : List Int} {E E' : Value} {o : Int} (h : L.length = 20) : (rc L E o).setIfInBounds 20 E' = rc L E' o := by
  unfold rc
  rw [List.setIfInBounds_toArray, List.set_append, if_neg (by rw [List.length_map, h]; omega), List.length_map, h]
  rfl
theorem rc_setO {L : List Int} {E : Value} {o o' : Int} (h : L.length = 20) : (rc L E o).setIfInBounds 21 (.int .i64 o') = rc L E o' := by
  unfold rc
  rw [List.setIfInBounds_toArray, List.set_append, if_neg (by rw [List.length_map, h]; omega), List.length_map, h]
  rfl
theorem rc_setL {L L' : List Int} {E : Value} {o : Int} (h : L.length = 20) (h' : L'.length = 20) : ((rc L E o).toList.take 0 ++ (L'.map ic) ++ (rc L E o).toList.drop (0 + (L'.map ic).length)).toArray = rc L' E o := by
  unfold rc
  rw [List.take_zero, List.nil_append, Nat.zero_add, List.length_map, h', List.drop_append, List.drop_of_length_le (by rw [List.length_map, h]; exact Nat.le_refl _)]
  simp [h]
theorem rc_info {L : List Int} {E : Value} {o : Int} (h : L.length = 20) : (Tryd.prog.info? 96).map (·.size) = some (rc L E o).size := by rw [rc_size h]; kernel_rfl
/-- A store of cells into a part of a block known whole. -/
theorem wpList_store_part {P : Program} {ops : Array Oper} {rest : List Oper} {o : Oper} {a : Act} {w : World} {Q : Exit → Act → World → Prop} (hgd : o.guard = none) (ty : TypeId) (x y : Operand) (ho : o.op = .store ty x y) (hd : o.dst = none)
    (g off : Nat) (vs : List Value) (hx : a.eval x = .pointer (some ⟨g, off, none⟩)) (hy : a.eval y = .agg vs.toArray) (t : TypeId) (cur : Array Value) (hg : w.heap[g]? = some (.cells cur t (0, 0))) (hi : (P.info? ty).map (·.size) = some vs.length)
    (hfit : off + vs.length ≤ cur.size) (h1 : ∀ v ∈ vs, v.oneCell' = true)
    (h : wpList P ops Q rest a (w.setRow g (cur.toList.take off ++ vs ++ cur.toList.drop (off + vs.length)).toArray)) : wpList P ops Q (o :: rest) a w := by
  refine wpList_plain hgd fun K hK => ?_
  have hst : (storeVar ty ⟨g, off, none⟩ (.agg vs.toArray)).run P w = .ok () (w.setRow g (cur.toList.take off ++ vs ++ cur.toList.drop (off + vs.length)).toArray) := by
    have h2 := run_storeCells_at P g off t vs 0 cur w hg (by omega) h1
    rw [Nat.add_zero] at h2
    cases hq : P.info? ty with
    | none => simp [hq] at hi
    | some i =>
      rw [hq] at hi
      simp at hi
      simp [storeVar, sizeOf, typeInfo, hq, hi, Value.cells, h2]
  unfold Oper.wp execOp
  simp only [ho, hx, hy, Instr.storeAt, Instr.sureAddr, Sem.run_bind, Sem.run_pure, Result.andThen_ok, hst]
  show K (a.put o.dst undef) _
  rw [hd]
  exact hK _ _ h
theorem results_run {fn : Func} {p q : Tmp} (h : fn.results = #[.cell p 96, .tmp q]) (tmps : Array Value) (w : World) (g : Nat) (L : List Int) (E : Value) (o : Int) (v : Value) (hl : L.length = 20)
    (hp : tmps.getD p undef = .pointer (some ⟨g, 0, none⟩)) (hq : tmps.getD q undef = v) (hg : BlkIs w g 96 (rc L E o)) :
    (results fn tmps).run Tryd.prog w = .ok (.tuple #[.agg (rc L E o), v]) w := by
  have hp' : tmps[p]?.getD undef = .pointer (some ⟨g, 0, none⟩) := by simpa using hp
  have hq' : tmps[q]?.getD undef = v := by simpa using hq
  simp [results, h, hp', hq', asAddr, run_loadVar_row w g 96 96 (rc L E o) (0, 0) _ hg Tryd.underlying96 rfl (rc_info hl)]

theorem load_mc {ops : Array Oper} {rest : List Oper} {op : Oper} {a : Act} {w : World} {Q : Exit → Act → World → Prop} {L : List Int} {E : Value} {o : Int} (hgd : op.guard = none) (x : Operand) (ho : op.op = .load 94 x)
    (b : Nat) (hx : a.eval x = .pointer (some ⟨b, 0, none⟩)) (hl : L.length = 20) (hB : BlkIs w b 96 (rc L E o)) (h : wpList Tryd.prog ops Q rest (a.put op.dst (.agg (mc L))) w) : wpList Tryd.prog ops Q (op :: rest) a w :=
  wpList_load_mid hgd 94 x ho b 0 hx (L.map ic) _ (rc_range hB) Tryd.underlying94 rfl (by rw [List.length_map, hl]; kernel_rfl) h
theorem store_mc {ops : Array Oper} {rest : List Oper} {op : Oper} {a : Act} {w : World} {Q : Exit → Act → World → Prop} {L L' : List Int} {E : Value} {o : Int} (hgd : op.guard = none) (x y : Operand) (ho : op.op = .store 94 x y) (hd : op.dst = none)
    (b : Nat) (hx : a.eval x = .pointer (some ⟨b, 0, none⟩)) (hy : a.eval y = .agg (mc L')) (hl : L.length = 20) (hl' : L'.length = 20) (hB : BlkIs w b 96 (rc L E o)) (h : wpList Tryd.prog ops Q rest a (w.setRow b (rc L' E o))) : wpList Tryd.prog ops Q (op :: rest) a w := by
  refine wpList_store_part hgd 94 x y ho hd b 0 (L'.map ic) hx hy 96 (rc L E o) hB (by rw [List.length_map, hl']; kernel_rfl) (by rw [List.length_map, hl', rc_size hl]; decide) (fun v hv => by obtain ⟨x, _, rfl⟩ := List.mem_map.1 hv; rfl) ?_
  rw [rc_setL hl hl']
  exact h

/-- What codeRunOf gives. -/
def RunIQ (cs : List (Int × Int)) (vs zs : List Int) (f : Int) (w : World) : Ending → World → Prop := fun e w' =>
  ∃ L E ne ce o, e = .returned (.tuple #[.agg (rc L (.slice E ne ce) o), .bool (runB cs vs zs f)]) ∧ L.length = 20 ∧ Below w.heap.size w w' ∧
    (runB cs vs zs f = true → o = (runN cs f.toNat (c0R vs zs)).2.2 ∧ Rep L (runN cs f.toNat (c0R vs zs)).1.1 (runN cs f.toNat (c0R vs zs)).1.2.1 (runN cs f.toNat (c0R vs zs)).1.2.2.1 (runN cs f.toNat (c0R vs zs)).1.2.2.2 ∧ OwnL w' w.heap.size w'.heap.size E ne ce (runN cs f.toNat (c0R vs zs)).2.1)

set_option maxRecDepth 100000 in
set_option maxHeartbeats 4000000 in
theorem codeRunOf_no (C : Option Addr) (k cc : Nat) (cs : List (Int × Int)) (A : Option Addr) (n c : Nat) (vs : List Int) (A' : Option Addr) (m c' : Nat) (zs : List Int) (f : Int) (w : World)
    (hc : InC w w.heap.size C k cs) (h0 : InL w w.heap.size A n vs) (h1 : InL w w.heap.size A' m zs) (hk : k ≤ 1048576) (hn : n ≤ 1048576) (hm : m ≤ 1048576) (hv : runB cs vs zs f = false) :
    Calls Tryd.prog 60 #[.slice C k cc, .agg #[.slice A n c, .slice A' m c'], .int .i64 f] w (RunIQ cs vs zs f w) := by
  have hb0 : Below w.heap.size w ((w.alloc (.cells #[.slice A n c, .slice A' m c'] 46)).alloc (.cells #[.int .i64 0, .int .i64 0, .int .i64 0, .int .i64 0, .int .i64 0, .int .i64 0, .int .i64 0, .int .i64 0, .int .i64 0, .int .i64 0, .int .i64 0, .int .i64 0, .int .i64 0, .int .i64 0, .int .i64 0, .int .i64 0, .int .i64 0, .int .i64 0, .int .i64 0, .int .i64 0, .slice none 0 0, .int .i64 0] 96)) := bon (bnew _ _) (bnew _ _)
  have hP : BlkIs ((w.alloc (.cells #[.slice A n c, .slice A' m c'] 46)).alloc (.cells #[.int .i64 0, .int .i64 0, .int .i64 0, .int .i64 0, .int .i64 0, .int .i64 0, .int .i64 0, .int .i64 0, .int .i64 0, .int .i64 0, .int .i64 0, .int .i64 0, .int .i64 0, .int .i64 0, .int .i64 0, .int .i64 0, .int .i64 0, .int .i64 0, .int .i64 0, .int .i64 0, .slice none 0 0, .int .i64 0] 96)) w.heap.size 46 #[.slice A n c, .slice A' m c'] := (blk_new _ _ _ _ rfl).next (bnew _ _)
  have hR : BlkIs ((w.alloc (.cells #[.slice A n c, .slice A' m c'] 46)).alloc (.cells #[.int .i64 0, .int .i64 0, .int .i64 0, .int .i64 0, .int .i64 0, .int .i64 0, .int .i64 0, .int .i64 0, .int .i64 0, .int .i64 0, .int .i64 0, .int .i64 0, .int .i64 0, .int .i64 0, .int .i64 0, .int .i64 0, .int .i64 0, .int .i64 0, .int .i64 0, .int .i64 0, .slice none 0 0, .int .i64 0] 96)) (w.heap.size + 1) 96 #[.int .i64 0, .int .i64 0, .int .i64 0, .int .i64 0, .int .i64 0, .int .i64 0, .int .i64 0, .int .i64 0, .int .i64 0, .int .i64 0, .int .i64 0, .int .i64 0, .int .i64 0, .int .i64 0, .int .i64 0, .int .i64 0, .int .i64 0, .int .i64 0, .int .i64 0, .int .i64 0, .slice none 0 0, .int .i64 0] := blk_new _ _ _ _ (by simp)
  have hsz : ((w.alloc (.cells #[.slice A n c, .slice A' m c'] 46)).alloc (.cells #[.int .i64 0, .int .i64 0, .int .i64 0, .int .i64 0, .int .i64 0, .int .i64 0, .int .i64 0, .int .i64 0, .int .i64 0, .int .i64 0, .int .i64 0, .int .i64 0, .int .i64 0, .int .i64 0, .int .i64 0, .int .i64 0, .int .i64 0, .int .i64 0, .int .i64 0, .int .i64 0, .slice none 0 0, .int .i64 0] 96)).heap.size = w.heap.size + 2 := by simp
  have p0 : ((w.alloc (.cells #[.slice A n c, .slice A' m c'] 46)).alloc (.cells #[.int .i64 0, .int .i64 0, .int .i64 0, .int .i64 0, .int .i64 0, .int .i64 0, .int .i64 0, .int .i64 0, .int .i64 0, .int .i64 0, .int .i64 0, .int .i64 0, .int .i64 0, .int .i64 0, .int .i64 0, .int .i64 0, .int .i64 0, .int .i64 0, .int .i64 0, .int .i64 0, .slice none 0 0, .int .i64 0] 96)).cell? ⟨w.heap.size, 0, none⟩ = some (.slice A n c) := hP.cell 0
  have p1 : ((w.alloc (.cells #[.slice A n c, .slice A' m c'] 46)).alloc (.cells #[.int .i64 0, .int .i64 0, .int .i64 0, .int .i64 0, .int .i64 0, .int .i64 0, .int .i64 0, .int .i64 0, .int .i64 0, .int .i64 0, .int .i64 0, .int .i64 0, .int .i64 0, .int .i64 0, .int .i64 0, .int .i64 0, .int .i64 0, .int .i64 0, .int .i64 0, .int .i64 0, .slice none 0 0, .int .i64 0] 96)).cell? ⟨w.heap.size, 1, none⟩ = some (.slice A' m c') := hP.cell 1
  have HC := Lib.hid (hc.next hb0 (Nat.le_refl _))
  have H0 := Lib.hid (h0.next hb0 (Nat.le_refl _))
  have H1 := Lib.hid (h1.next hb0 (Nat.le_refl _))
  have HIS0 := implCode_c C k cc w.heap.size cs _ HC.out hb0.size hk
  have HFU0 := fun x => isBetween_i f 0 2000 x
  have hz0 : #[.int .i64 0, .int .i64 0, .int .i64 0, .int .i64 0, .int .i64 0, .int .i64 0, .int .i64 0, .int .i64 0, .int .i64 0, .int .i64 0, .int .i64 0, .int .i64 0, .int .i64 0, .int .i64 0, .int .i64 0, .int .i64 0, .int .i64 0, .int .i64 0, .int .i64 0, .int .i64 0, .slice none 0 0, .int .i64 0] = rc [0, 0, 0, 0, 0, 0, 0, 0, 0, 0, 0, 0, 0, 0, 0, 0, 0, 0, 0, 0] (.slice none 0 0) 0 := rfl
  have hiz : (Tryd.prog.info? 96).map (·.size) = some (#[.int .i64 0, .int .i64 0, .int .i64 0, .int .i64 0, .int .i64 0, .int .i64 0, .int .i64 0, .int .i64 0, .int .i64 0, .int .i64 0, .int .i64 0, .int .i64 0, .int .i64 0, .int .i64 0, .int .i64 0, .int .i64 0, .int .i64 0, .int .i64 0, .int .i64 0, .int .i64 0, .slice none 0 0, .int .i64 0] : Array Value).size := by kernel_rfl
  have h1z : (#[.int .i64 0, .int .i64 0, .int .i64 0, .int .i64 0, .int .i64 0, .int .i64 0, .int .i64 0, .int .i64 0, .int .i64 0, .int .i64 0, .int .i64 0, .int .i64 0, .int .i64 0, .int .i64 0, .int .i64 0, .int .i64 0, .int .i64 0, .int .i64 0, .int .i64 0, .int .i64 0, .slice none 0 0, .int .i64 0] : Array Value).all (·.oneCell') = true := rc_one (L := [0, 0, 0, 0, 0, 0, 0, 0, 0, 0, 0, 0, 0, 0, 0, 0, 0, 0, 0, 0]) (E := .slice none 0 0) (o := 0) rfl
  have HRB := Lib.hid hv
  have fin : ∀ x : World, Below w.heap.size w x → RunIQ cs vs zs f w (.returned (.tuple #[.agg #[.int .i64 0, .int .i64 0, .int .i64 0, .int .i64 0, .int .i64 0, .int .i64 0, .int .i64 0, .int .i64 0, .int .i64 0, .int .i64 0, .int .i64 0, .int .i64 0, .int .i64 0, .int .i64 0, .int .i64 0, .int .i64 0, .int .i64 0, .int .i64 0, .int .i64 0, .int .i64 0, .slice none 0 0, .int .i64 0], .bool false])) x := fun x hx => ⟨[0, 0, 0, 0, 0, 0, 0, 0, 0, 0, 0, 0, 0, 0, 0, 0, 0, 0, 0, 0], none, 0, 0, 0, by rw [HRB.out]; rfl, rfl, hx, fun h => by rw [HRB.out] at h; cases h⟩
  have HFIN := Lib.hid fin
  have res : ∀ (x : World) (tmps : Array Value), tmps.getD 6 undef = .pointer (some ⟨w.heap.size + 1, 0, none⟩) → tmps.getD 7 undef = .bool false → BlkIs x (w.heap.size + 1) 96 #[.int .i64 0, .int .i64 0, .int .i64 0, .int .i64 0, .int .i64 0, .int .i64 0, .int .i64 0, .int .i64 0, .int .i64 0, .int .i64 0, .int .i64 0, .int .i64 0, .int .i64 0, .int .i64 0, .int .i64 0, .int .i64 0, .int .i64 0, .int .i64 0, .int .i64 0, .int .i64 0, .slice none 0 0, .int .i64 0] → (results Tryd.f60 tmps).run Tryd.prog x = .ok (.tuple #[.agg #[.int .i64 0, .int .i64 0, .int .i64 0, .int .i64 0, .int .i64 0, .int .i64 0, .int .i64 0, .int .i64 0, .int .i64 0, .int .i64 0, .int .i64 0, .int .i64 0, .int .i64 0, .int .i64 0, .int .i64 0, .int .i64 0, .int .i64 0, .int .i64 0, .int .i64 0, .int .i64 0, .slice none 0 0, .int .i64 0], .bool false]) x := fun x tmps h1 h2 h3 => results_run rfl tmps x (w.heap.size + 1) [0, 0, 0, 0, 0, 0, 0, 0, 0, 0, 0, 0, 0, 0, 0, 0, 0, 0, 0, 0] (.slice none 0 0) 0 (.bool false) rfl h1 h2 h3
  have HRES := Lib.hid res
  clear fin res hc h0 h1 hP
  cases hcb : codeB cs with
  | false =>
    rw [hcb] at HIS0
    have HIS := Lib.hid HIS0
    clear HIS0 HFU0 hv hcb hz0
    go_enter Tryd.func60, Tryd.ntmps60
    go_wp2_with fail
    generalize (w.alloc (.cells #[.slice A n c, .slice A' m c'] 46)).alloc (.cells #[.int .i64 0, .int .i64 0, .int .i64 0, .int .i64 0, .int .i64 0, .int .i64 0, .int .i64 0, .int .i64 0, .int .i64 0, .int .i64 0, .int .i64 0, .int .i64 0, .int .i64 0, .int .i64 0, .int .i64 0, .int .i64 0, .int .i64 0, .int .i64 0, .int .i64 0, .int .i64 0, .slice none 0 0, .int .i64 0] 96) = W at hb0 hR hsz HIS HC H0 H1 p0 p1 ⊢
    go_step3
    go_wp2_with fail
    refine HIS.out.mono ?_
    rintro e w1 ⟨rfl, hb1⟩
    have hR1 := hR.next hb1
    have hbf := bon hb0 hb1
    clear p0 p1 hR hb1
    go_wp2_with (first
      | (refine wpList_buildTo rfl 96 _ rfl (some 24) rfl #[.int .i64 0, .int .i64 0, .int .i64 0, .int .i64 0, .int .i64 0, .int .i64 0, .int .i64 0, .int .i64 0, .int .i64 0, .int .i64 0, .int .i64 0, .int .i64 0, .int .i64 0, .int .i64 0, .int .i64 0, .int .i64 0, .int .i64 0, .int .i64 0, .int .i64 0, .int .i64 0, .slice none 0 0, .int .i64 0] (by kernel_rfl) ?_)
      | (refine wpList_store_rowTo rfl 96 _ _ rfl rfl (w.heap.size + 1) #[.int .i64 0, .int .i64 0, .int .i64 0, .int .i64 0, .int .i64 0, .int .i64 0, .int .i64 0, .int .i64 0, .int .i64 0, .int .i64 0, .int .i64 0, .int .i64 0, .int .i64 0, .int .i64 0, .int .i64 0, .int .i64 0, .int .i64 0, .int .i64 0, .int .i64 0, .int .i64 0, .slice none 0 0, .int .i64 0] rfl rfl 96 #[.int .i64 0, .int .i64 0, .int .i64 0, .int .i64 0, .int .i64 0, .int .i64 0, .int .i64 0, .int .i64 0, .int .i64 0, .int .i64 0, .int .i64 0, .int .i64 0, .int .i64 0, .int .i64 0, .int .i64 0, .int .i64 0, .int .i64 0, .int .i64 0, .int .i64 0, .int .i64 0, .slice none 0 0, .int .i64 0] hR1 hiz rfl h1z ?_)
      | fail)
    rw [Exit.noGoto_ret]
    refine bodyPost_ret (HRES.out _ _ rfl rfl (blk_setRow hR1)) rfl ?_
    exact HFIN.out _ (hbf.trans ((out_setRow (lo := w.heap.size + 1) (hi := w.heap.size + 2) ⟨by omega, by omega⟩).below (by omega) hbf.size))
  | true =>
    rw [hcb] at HIS0
    have HIS := Lib.hid HIS0
    obtain ⟨bs, hbs⟩ : ∃ b, Hid (stB vs zs = b) := ⟨_, rfl⟩
    obtain ⟨bf, hbf0⟩ : ∃ b, Hid ((decide (0 ≤ f) && decide (f ≤ 2000)) = b) := ⟨_, rfl⟩
    have hand : (bs && bf) = false := by have h := hv; unfold runB fuelB at h; rw [hcb, hbs.out, hbf0.out] at h; simpa using h
    rw [hbf0.out] at HFU0
    have HFU := Lib.hid HFU0
    clear HIS0 HFU0 hv hcb hz0
    go_enter Tryd.func60, Tryd.ntmps60
    go_wp2_with fail
    generalize (w.alloc (.cells #[.slice A n c, .slice A' m c'] 46)).alloc (.cells #[.int .i64 0, .int .i64 0, .int .i64 0, .int .i64 0, .int .i64 0, .int .i64 0, .int .i64 0, .int .i64 0, .int .i64 0, .int .i64 0, .int .i64 0, .int .i64 0, .int .i64 0, .int .i64 0, .int .i64 0, .int .i64 0, .int .i64 0, .int .i64 0, .int .i64 0, .int .i64 0, .slice none 0 0, .int .i64 0] 96) = W at hb0 hR hsz HIS HC H0 H1 p0 p1 ⊢
    go_step3
    go_wp2_with fail
    refine HIS.out.mono ?_
    rintro e w1 ⟨rfl, hb1⟩
    have hs1 := hb1.size
    replace p0 := cell_next p0 hb1
    replace p1 := cell_next p1 hb1
    have HST0 := implState_c A n c w.heap.size vs A' m c' zs w1 (H0.out.next hb1 (by omega)) (H1.out.next hb1 (by omega)) (by omega) hn hm
    rw [hbs.out] at HST0
    have HST := Lib.hid HST0
    have hR1 := hR.next hb1
    have hbf1 := bon hb0 hb1
    clear HST0 hR HIS hb1
    cases bs with
    | false =>
      go_wp2_with fail
      refine HST.out.mono ?_
      rintro e w2 ⟨rfl, hb2⟩
      have hR2 := hR1.next hb2
      have hbf := bon hbf1 hb2
      clear p0 p1 hR1 hb2
      go_wp2_with (first
        | (refine wpList_buildTo rfl 96 _ rfl (some 24) rfl #[.int .i64 0, .int .i64 0, .int .i64 0, .int .i64 0, .int .i64 0, .int .i64 0, .int .i64 0, .int .i64 0, .int .i64 0, .int .i64 0, .int .i64 0, .int .i64 0, .int .i64 0, .int .i64 0, .int .i64 0, .int .i64 0, .int .i64 0, .int .i64 0, .int .i64 0, .int .i64 0, .slice none 0 0, .int .i64 0] (by kernel_rfl) ?_)
        | (refine wpList_store_rowTo rfl 96 _ _ rfl rfl (w.heap.size + 1) #[.int .i64 0, .int .i64 0, .int .i64 0, .int .i64 0, .int .i64 0, .int .i64 0, .int .i64 0, .int .i64 0, .int .i64 0, .int .i64 0, .int .i64 0, .int .i64 0, .int .i64 0, .int .i64 0, .int .i64 0, .int .i64 0, .int .i64 0, .int .i64 0, .int .i64 0, .int .i64 0, .slice none 0 0, .int .i64 0] rfl rfl 96 #[.int .i64 0, .int .i64 0, .int .i64 0, .int .i64 0, .int .i64 0, .int .i64 0, .int .i64 0, .int .i64 0, .int .i64 0, .int .i64 0, .int .i64 0, .int .i64 0, .int .i64 0, .int .i64 0, .int .i64 0, .int .i64 0, .int .i64 0, .int .i64 0, .int .i64 0, .int .i64 0, .slice none 0 0, .int .i64 0] hR2 hiz rfl h1z ?_)
        | fail)
      rw [Exit.noGoto_ret]
      refine bodyPost_ret (HRES.out _ _ rfl rfl (blk_setRow hR2)) rfl ?_
      exact HFIN.out _ (hbf.trans ((out_setRow (lo := w.heap.size + 1) (hi := w.heap.size + 2) ⟨by omega, by omega⟩).below (by omega) hbf.size))
    | true =>
      obtain rfl : bf = false := by simpa using hand
      go_wp2_with fail
      refine HST.out.mono ?_
      rintro e w2 ⟨rfl, hb2⟩
      have hR2 := hR1.next hb2
      have hbf := bon hbf1 hb2
      clear p0 p1 hR1 hb2
      go_wp2_with fail
      refine (HFU.out _).mono ?_
      rintro e w3 ⟨rfl, rfl⟩
      go_wp2_with (first
        | (refine wpList_buildTo rfl 96 _ rfl (some 24) rfl #[.int .i64 0, .int .i64 0, .int .i64 0, .int .i64 0, .int .i64 0, .int .i64 0, .int .i64 0, .int .i64 0, .int .i64 0, .int .i64 0, .int .i64 0, .int .i64 0, .int .i64 0, .int .i64 0, .int .i64 0, .int .i64 0, .int .i64 0, .int .i64 0, .int .i64 0, .int .i64 0, .slice none 0 0, .int .i64 0] (by kernel_rfl) ?_)
        | (refine wpList_store_rowTo rfl 96 _ _ rfl rfl (w.heap.size + 1) #[.int .i64 0, .int .i64 0, .int .i64 0, .int .i64 0, .int .i64 0, .int .i64 0, .int .i64 0, .int .i64 0, .int .i64 0, .int .i64 0, .int .i64 0, .int .i64 0, .int .i64 0, .int .i64 0, .int .i64 0, .int .i64 0, .int .i64 0, .int .i64 0, .int .i64 0, .int .i64 0, .slice none 0 0, .int .i64 0] rfl rfl 96 #[.int .i64 0, .int .i64 0, .int .i64 0, .int .i64 0, .int .i64 0, .int .i64 0, .int .i64 0, .int .i64 0, .int .i64 0, .int .i64 0, .int .i64 0, .int .i64 0, .int .i64 0, .int .i64 0, .int .i64 0, .int .i64 0, .int .i64 0, .int .i64 0, .int .i64 0, .int .i64 0, .slice none 0 0, .int .i64 0] hR2 hiz rfl h1z ?_)
        | fail)
      rw [Exit.noGoto_ret]
      refine bodyPost_ret (HRES.out _ _ rfl rfl (blk_setRow hR2)) rfl ?_
      exact HFIN.out _ (hbf.trans ((out_setRow (lo := w.heap.size + 1) (hi := w.heap.size + 2) ⟨by omega, by omega⟩).below (by omega) hbf.size))

set_option maxRecDepth 100000 in
set_option maxHeartbeats 8000000 in
theorem codeRunOf_yes (C : Option Addr) (k cc : Nat) (cs : List (Int × Int)) (A : Option Addr) (n c : Nat) (vs : List Int) (A' : Option Addr) (m c' : Nat) (zs : List Int) (f : Int) (w : World)
    (hc : InC w w.heap.size C k cs) (h0 : InL w w.heap.size A n vs) (h1 : InL w w.heap.size A' m zs) (hk : k ≤ 1048576) (hn : n ≤ 1048576) (hm : m ≤ 1048576) (hv : runB cs vs zs f = true) :
    Calls Tryd.prog 60 #[.slice C k cc, .agg #[.slice A n c, .slice A' m c'], .int .i64 f] w (RunIQ cs vs zs f w) := by
  obtain ⟨i0, hif, hz0, hz1, hz2⟩ := info_parts info64
  obtain ⟨hcode, hst, hfu, v, hf0, hf1⟩ := runB_parts hv
  obtain rfl : n = 4 := by rw [← h0.1]; exact v.lv
  obtain rfl : m = 8 := by rw [← h1.1]; exact v.lz
  have hb0 : Below w.heap.size w ((w.alloc (.cells #[.slice A 4 c, .slice A' 8 c'] 46)).alloc (.cells #[.int .i64 0, .int .i64 0, .int .i64 0, .int .i64 0, .int .i64 0, .int .i64 0, .int .i64 0, .int .i64 0, .int .i64 0, .int .i64 0, .int .i64 0, .int .i64 0, .int .i64 0, .int .i64 0, .int .i64 0, .int .i64 0, .int .i64 0, .int .i64 0, .int .i64 0, .int .i64 0, .slice none 0 0, .int .i64 0] 96)) := bon (bnew _ _) (bnew _ _)
  have hP : BlkIs ((w.alloc (.cells #[.slice A 4 c, .slice A' 8 c'] 46)).alloc (.cells #[.int .i64 0, .int .i64 0, .int .i64 0, .int .i64 0, .int .i64 0, .int .i64 0, .int .i64 0, .int .i64 0, .int .i64 0, .int .i64 0, .int .i64 0, .int .i64 0, .int .i64 0, .int .i64 0, .int .i64 0, .int .i64 0, .int .i64 0, .int .i64 0, .int .i64 0, .int .i64 0, .slice none 0 0, .int .i64 0] 96)) w.heap.size 46 #[.slice A 4 c, .slice A' 8 c'] := (blk_new _ _ _ _ rfl).next (bnew _ _)
  have hR : BlkIs ((w.alloc (.cells #[.slice A 4 c, .slice A' 8 c'] 46)).alloc (.cells #[.int .i64 0, .int .i64 0, .int .i64 0, .int .i64 0, .int .i64 0, .int .i64 0, .int .i64 0, .int .i64 0, .int .i64 0, .int .i64 0, .int .i64 0, .int .i64 0, .int .i64 0, .int .i64 0, .int .i64 0, .int .i64 0, .int .i64 0, .int .i64 0, .int .i64 0, .int .i64 0, .slice none 0 0, .int .i64 0] 96)) (w.heap.size + 1) 96 #[.int .i64 0, .int .i64 0, .int .i64 0, .int .i64 0, .int .i64 0, .int .i64 0, .int .i64 0, .int .i64 0, .int .i64 0, .int .i64 0, .int .i64 0, .int .i64 0, .int .i64 0, .int .i64 0, .int .i64 0, .int .i64 0, .int .i64 0, .int .i64 0, .int .i64 0, .int .i64 0, .slice none 0 0, .int .i64 0] := blk_new _ _ _ _ (by simp)
  have hsz : ((w.alloc (.cells #[.slice A 4 c, .slice A' 8 c'] 46)).alloc (.cells #[.int .i64 0, .int .i64 0, .int .i64 0, .int .i64 0, .int .i64 0, .int .i64 0, .int .i64 0, .int .i64 0, .int .i64 0, .int .i64 0, .int .i64 0, .int .i64 0, .int .i64 0, .int .i64 0, .int .i64 0, .int .i64 0, .int .i64 0, .int .i64 0, .int .i64 0, .int .i64 0, .slice none 0 0, .int .i64 0] 96)).heap.size = w.heap.size + 2 := by simp
  have p0 : ((w.alloc (.cells #[.slice A 4 c, .slice A' 8 c'] 46)).alloc (.cells #[.int .i64 0, .int .i64 0, .int .i64 0, .int .i64 0, .int .i64 0, .int .i64 0, .int .i64 0, .int .i64 0, .int .i64 0, .int .i64 0, .int .i64 0, .int .i64 0, .int .i64 0, .int .i64 0, .int .i64 0, .int .i64 0, .int .i64 0, .int .i64 0, .int .i64 0, .int .i64 0, .slice none 0 0, .int .i64 0] 96)).cell? ⟨w.heap.size, 0, none⟩ = some (.slice A 4 c) := hP.cell 0
  have p1 : ((w.alloc (.cells #[.slice A 4 c, .slice A' 8 c'] 46)).alloc (.cells #[.int .i64 0, .int .i64 0, .int .i64 0, .int .i64 0, .int .i64 0, .int .i64 0, .int .i64 0, .int .i64 0, .int .i64 0, .int .i64 0, .int .i64 0, .int .i64 0, .int .i64 0, .int .i64 0, .int .i64 0, .int .i64 0, .int .i64 0, .int .i64 0, .int .i64 0, .int .i64 0, .slice none 0 0, .int .i64 0] 96)).cell? ⟨w.heap.size, 1, none⟩ = some (.slice A' 8 c') := hP.cell 1
  have HC := Lib.hid (hc.next hb0 (Nat.le_refl _))
  have H0 := Lib.hid (h0.next hb0 (Nat.le_refl _))
  have H1 := Lib.hid (h1.next hb0 (Nat.le_refl _))
  have HIS0 := implCode_c C k cc w.heap.size cs _ HC.out hb0.size hk
  rw [hcode] at HIS0
  have HIS := Lib.hid HIS0
  have HFU0 := fun x => isBetween_i f 0 2000 x
  rw [show (decide (0 ≤ f) && decide (f ≤ 2000)) = true from hfu] at HFU0
  have HFU := Lib.hid HFU0
  have HSTB := Lib.hid hst
  have HCODE := Lib.hid hcode
  have HV := Lib.hid v
  have HRB := Lib.hid hv
  obtain ⟨F, hF⟩ : ∃ F : Nat, Hid (f = F) := ⟨f.toNat, by show _ = _; omega⟩
  have HRT : Hid (RunTo cs F (c0R vs zs) 0 (vs, zs, [], 0) []) := RunTo.zero v
  have hF2 : F ≤ 2000 := by have := hF.out; omega
  have eF : f.toNat = F := by have := hF.out; omega
  have HEF := Lib.hid eF
  have hiz : (Tryd.prog.info? 96).map (·.size) = some (#[.int .i64 0, .int .i64 0, .int .i64 0, .int .i64 0, .int .i64 0, .int .i64 0, .int .i64 0, .int .i64 0, .int .i64 0, .int .i64 0, .int .i64 0, .int .i64 0, .int .i64 0, .int .i64 0, .int .i64 0, .int .i64 0, .int .i64 0, .int .i64 0, .int .i64 0, .int .i64 0, .slice none 0 0, .int .i64 0] : Array Value).size := by kernel_rfl
  have hlv := v.lv
  have hlz := v.lz
  clear HIS0 HFU0 hcode hst hfu hv hc h0 h1 hP eF v
  match vs, hlv with
  | [x0, x1, x2, x3], HVL =>
  match zs, hlz with
  | [y0, y1, y2, y3, y4, y5, y6, y7], HZL =>
  clear hlv hlz
  go_enter Tryd.func60, Tryd.ntmps60
  go_wp2_with fail
  generalize (w.alloc (.cells #[.slice A 4 c, .slice A' 8 c'] 46)).alloc (.cells #[.int .i64 0, .int .i64 0, .int .i64 0, .int .i64 0, .int .i64 0, .int .i64 0, .int .i64 0, .int .i64 0, .int .i64 0, .int .i64 0, .int .i64 0, .int .i64 0, .int .i64 0, .int .i64 0, .int .i64 0, .int .i64 0, .int .i64 0, .int .i64 0, .int .i64 0, .int .i64 0, .slice none 0 0, .int .i64 0] 96) = W at hb0 hR hsz HIS HC H0 H1 p0 p1 ⊢
  go_step3
  go_wp2_with fail
  refine HIS.out.mono ?_
  rintro e w1 ⟨rfl, hb1⟩
  have hs1 := hb1.size
  replace p0 := cell_next p0 hb1
  replace p1 := cell_next p1 hb1
  have HST0 := implState_c A 4 c w.heap.size [x0, x1, x2, x3] A' 8 c' [y0, y1, y2, y3, y4, y5, y6, y7] w1 (H0.out.next hb1 (by omega)) (H1.out.next hb1 (by omega)) (by omega) hn hm
  rw [HSTB.out] at HST0
  have HST := Lib.hid HST0
  clear HST0 HIS
  go_wp2_with fail
  refine HST.out.mono ?_
  rintro e w2 ⟨rfl, hb2⟩
  have hs2 := hb2.size
  replace p0 := cell_next p0 hb2
  replace p1 := cell_next p1 hb2
  have hb02 := bon (bon hb0 hb1) hb2
  have HMO := Lib.hid (machineOf_c A c [x0, x1, x2, x3] A' c' [y0, y1, y2, y3, y4, y5, y6, y7] none 0 0 [] 0 w2 (((H0.out.next hb1 (by omega)).next hb2 (by omega)).more (by omega)) (((H1.out.next hb1 (by omega)).next hb2 (by omega)).more (by omega)) ⟨rfl, Row.nil⟩ (by omega))
  go_wp2_with fail
  refine (HFU.out _).mono ?_
  rintro e w3 ⟨rfl, rfl⟩
  go_wp2_with fail
  refine HMO.out.mono ?_
  rintro e w4 ⟨rfl, hb4⟩
  have hs4 := hb4.size
  have hR4 := ((hR.next hb1).next hb2).next hb4
  have hbW := bon (bon hb1 hb2) hb4
  have HC4 := Lib.hid (HC.out.next hbW (by omega))
  have hbw4 := bon hb02 hb4
  have hZ : BlkIs (w4.alloc (.cells #[.int .i64 0, .int .i64 0, .int .i64 0, .int .i64 0, .int .i64 0, .int .i64 0, .int .i64 0, .int .i64 0, .int .i64 0, .int .i64 0, .int .i64 0, .int .i64 0, .int .i64 0, .int .i64 0, .int .i64 0, .int .i64 0, .int .i64 0, .int .i64 0, .int .i64 0, .int .i64 0, .slice none 0 0, .int .i64 0] 96)) w4.heap.size 96 #[.int .i64 0, .int .i64 0, .int .i64 0, .int .i64 0, .int .i64 0, .int .i64 0, .int .i64 0, .int .i64 0, .int .i64 0, .int .i64 0, .int .i64 0, .int .i64 0, .int .i64 0, .int .i64 0, .int .i64 0, .int .i64 0, .int .i64 0, .int .i64 0, .int .i64 0, .int .i64 0, .slice none 0 0, .int .i64 0] := blk_new _ _ _ _ rfl
  have hsA : (w4.alloc (.cells #[.int .i64 0, .int .i64 0, .int .i64 0, .int .i64 0, .int .i64 0, .int .i64 0, .int .i64 0, .int .i64 0, .int .i64 0, .int .i64 0, .int .i64 0, .int .i64 0, .int .i64 0, .int .i64 0, .int .i64 0, .int .i64 0, .int .i64 0, .int .i64 0, .int .i64 0, .int .i64 0, .slice none 0 0, .int .i64 0] 96)).heap.size = w4.heap.size + 1 := by simp
  have hoA : Out w4.heap.size (w4.heap.size + 1) w4 ((w4.alloc (.cells #[.int .i64 0, .int .i64 0, .int .i64 0, .int .i64 0, .int .i64 0, .int .i64 0, .int .i64 0, .int .i64 0, .int .i64 0, .int .i64 0, .int .i64 0, .int .i64 0, .int .i64 0, .int .i64 0, .int .i64 0, .int .i64 0, .int .i64 0, .int .i64 0, .int .i64 0, .int .i64 0, .slice none 0 0, .int .i64 0] 96)).setRow w4.heap.size (rc [x0, x1, x2, x3, y0, y1, y2, y3, y4, y5, y6, y7, 0, 0, 0, 0, 0, 0, 0, 0] (.slice none 0 0) 1)) := (Out.of_below (bnew _ _)).trans (out_setRow (by omega))
  have hB5 : BlkIs ((w4.alloc (.cells #[.int .i64 0, .int .i64 0, .int .i64 0, .int .i64 0, .int .i64 0, .int .i64 0, .int .i64 0, .int .i64 0, .int .i64 0, .int .i64 0, .int .i64 0, .int .i64 0, .int .i64 0, .int .i64 0, .int .i64 0, .int .i64 0, .int .i64 0, .int .i64 0, .int .i64 0, .int .i64 0, .slice none 0 0, .int .i64 0] 96)).setRow w4.heap.size (rc [x0, x1, x2, x3, y0, y1, y2, y3, y4, y5, y6, y7, 0, 0, 0, 0, 0, 0, 0, 0] (.slice none 0 0) 1)) w4.heap.size 96 (rc [x0, x1, x2, x3, y0, y1, y2, y3, y4, y5, y6, y7, 0, 0, 0, 0, 0, 0, 0, 0] (.slice none 0 0) 1) := blk_setRow hZ
  have hi5 : (Tryd.prog.info? 96).map (·.size) = some (rc [x0, x1, x2, x3, y0, y1, y2, y3, y4, y5, y6, y7, 0, 0, 0, 0, 0, 0, 0, 0] (.slice none 0 0) 1).size := rc_info rfl
  have ho5 : (rc [x0, x1, x2, x3, y0, y1, y2, y3, y4, y5, y6, y7, 0, 0, 0, 0, 0, 0, 0, 0] (.slice none 0 0) 1).all (·.oneCell') = true := rc_one rfl
  have hoS : (#[.int .i64 0, .int .i64 0, .int .i64 0, .int .i64 0, .int .i64 0, .int .i64 0, .int .i64 0, .int .i64 0, .int .i64 0, .int .i64 0, .int .i64 0, .int .i64 0, .int .i64 0, .int .i64 0, .int .i64 0, .int .i64 0, .int .i64 0, .int .i64 0, .int .i64 0, .int .i64 0, .slice none 0 0, .int .i64 0] : Array Value).size = (rc [x0, x1, x2, x3, y0, y1, y2, y3, y4, y5, y6, y7, 0, 0, 0, 0, 0, 0, 0, 0] (.slice none 0 0) 1).size := rfl
  have hREP : Hid (Rep [x0, x1, x2, x3, y0, y1, y2, y3, y4, y5, y6, y7, 0, 0, 0, 0, 0, 0, 0, 0] [x0, x1, x2, x3] [y0, y1, y2, y3, y4, y5, y6, y7] [] 0) := mofL_rep (vs := [x0, x1, x2, x3]) (zs := [y0, y1, y2, y3, y4, y5, y6, y7]) (st := []) (p := 0) rfl rfl (Nat.zero_le _)
  clear p0 p1 HMO HST HC H0 H1 hb1 hb2 hb4 hR
  go_wp2_with (first
    | (refine wpList_buildTo rfl 96 _ rfl (some 28) rfl (rc [x0, x1, x2, x3, y0, y1, y2, y3, y4, y5, y6, y7, 0, 0, 0, 0, 0, 0, 0, 0] (.slice none 0 0) 1) (by kernel_rfl) ?_)
    | (refine wpList_store_rowTo rfl 96 _ _ rfl rfl w4.heap.size (rc [x0, x1, x2, x3, y0, y1, y2, y3, y4, y5, y6, y7, 0, 0, 0, 0, 0, 0, 0, 0] (.slice none 0 0) 1) rfl rfl 96 #[.int .i64 0, .int .i64 0, .int .i64 0, .int .i64 0, .int .i64 0, .int .i64 0, .int .i64 0, .int .i64 0, .int .i64 0, .int .i64 0, .int .i64 0, .int .i64 0, .int .i64 0, .int .i64 0, .int .i64 0, .int .i64 0, .int .i64 0, .int .i64 0, .int .i64 0, .int .i64 0, .slice none 0 0, .int .i64 0] hZ hi5 hoS ho5 ?_)
    | fail)
  have hbel0 : Below w4.heap.size w4 ((w4.alloc (.cells #[.int .i64 0, .int .i64 0, .int .i64 0, .int .i64 0, .int .i64 0, .int .i64 0, .int .i64 0, .int .i64 0, .int .i64 0, .int .i64 0, .int .i64 0, .int .i64 0, .int .i64 0, .int .i64 0, .int .i64 0, .int .i64 0, .int .i64 0, .int .i64 0, .int .i64 0, .int .i64 0, .slice none 0 0, .int .i64 0] 96)).setRow w4.heap.size (rc [x0, x1, x2, x3, y0, y1, y2, y3, y4, y5, y6, y7, 0, 0, 0, 0, 0, 0, 0, 0] (.slice none 0 0) 1)) := hoA.below (Nat.le_refl _) (Nat.le_refl _)
  have hs5 := hbel0.size
  have hOW0 : Hid (OwnL ((w4.alloc (.cells #[.int .i64 0, .int .i64 0, .int .i64 0, .int .i64 0, .int .i64 0, .int .i64 0, .int .i64 0, .int .i64 0, .int .i64 0, .int .i64 0, .int .i64 0, .int .i64 0, .int .i64 0, .int .i64 0, .int .i64 0, .int .i64 0, .int .i64 0, .int .i64 0, .int .i64 0, .int .i64 0, .slice none 0 0, .int .i64 0] 96)).setRow w4.heap.size (rc [x0, x1, x2, x3, y0, y1, y2, y3, y4, y5, y6, y7, 0, 0, 0, 0, 0, 0, 0, 0] (.slice none 0 0) 1)) (w4.heap.size + 1) ((w4.alloc (.cells #[.int .i64 0, .int .i64 0, .int .i64 0, .int .i64 0, .int .i64 0, .int .i64 0, .int .i64 0, .int .i64 0, .int .i64 0, .int .i64 0, .int .i64 0, .int .i64 0, .int .i64 0, .int .i64 0, .int .i64 0, .int .i64 0, .int .i64 0, .int .i64 0, .int .i64 0, .int .i64 0, .slice none 0 0, .int .i64 0] 96)).setRow w4.heap.size (rc [x0, x1, x2, x3, y0, y1, y2, y3, y4, y5, y6, y7, 0, 0, 0, 0, 0, 0, 0, 0] (.slice none 0 0) 1)).heap.size none 0 0 []) := own_none _ _ _ (by have := hoA.size; have := hB5.lt; omega) (Nat.le_refl _)
  have hw2 : w.heap.size + 2 ≤ w4.heap.size := by omega
  clear hZ hsA hoA hi5 ho5 hoS hsz hs1 hs2 hs4 hb0 hb02 hbW HFU HSTB
  generalize ((w4.alloc (.cells #[.int .i64 0, .int .i64 0, .int .i64 0, .int .i64 0, .int .i64 0, .int .i64 0, .int .i64 0, .int .i64 0, .int .i64 0, .int .i64 0, .int .i64 0, .int .i64 0, .int .i64 0, .int .i64 0, .int .i64 0, .int .i64 0, .int .i64 0, .int .i64 0, .int .i64 0, .int .i64 0, .slice none 0 0, .int .i64 0] 96)).setRow w4.heap.size (rc [x0, x1, x2, x3, y0, y1, y2, y3, y4, y5, y6, y7, 0, 0, 0, 0, 0, 0, 0, 0] (.slice none 0 0) 1)) = W5 at hB5 hbel0 hs5 hOW0 ⊢
  go_step3
  go_wp2_with fail
  go_loopw [9, 10, 30, 42, 54] (fun t9 t10 st t42 t54 wr => ∃ (i : Nat) (L : List Int) (E : Option Addr) (ne ce : Nat) (dv dz ds : List Int) (dp : Int) (ks : List Int), st = .int .i64 (i : Int) ∧ Hid (RunTo cs F (c0R [x0, x1, x2, x3] [y0, y1, y2, y3, y4, y5, y6, y7]) i (dv, dz, ds, dp) ks) ∧ Hid (Rep L dv dz ds dp) ∧ BlkIs wr w4.heap.size 96 (rc L (.slice E ne ce) 1) ∧ Hid (OwnL wr (w4.heap.size + 1) wr.heap.size E ne ce ks) ∧ Below w4.heap.size w4 wr) (fun _ _ st _ _ _ => F - (intOf st).toNat)
  case atStart => exact ⟨0, [x0, x1, x2, x3, y0, y1, y2, y3, y4, y5, y6, y7, 0, 0, 0, 0, 0, 0, 0, 0], none, 0, 0, [x0, x1, x2, x3], [y0, y1, y2, y3, y4, y5, y6, y7], [], 0, [], rfl, HRT, hREP, hB5, hOW0, hbel0⟩
  case round =>
    clear hB5 hOW0 hbel0 hs5 HRT hREP
    obtain ⟨i, L, E, ne, ce, dv, dz, ds, dp, ks, rfl, HRT, HRP, hBn, HOW, hbn⟩ := hrel
    have hl20 := HRP.out.len
    have hRn := hR4.next hbn
    have hOn := HOW.out
    have hsn := hbn.size
    by_cases hiF : i = F
    · have eqT : decide ((i : Int) < f) = false := by have := hF.out; simp; omega
      have HE : Hid (i = F) := hiF
      clear hiF
      have HRUN := Lib.hid (show runN cs F (c0R [x0, x1, x2, x3] [y0, y1, y2, y3, y4, y5, y6, y7]) = ((dv, dz, ds, dp), ks, 1) from (by have h := HRT.out; rw [HE.out] at h; exact h.fin))
      have hBl := hBn
      have hol : Out w4.heap.size (w4.heap.size + 1) wr wr := Out.refl _ _ _
      have hRl := hRn.out hol (by omega)
      have hOl := hOn.out hol (by omega)
      have hbl := hbn.trans (hol.below (Nat.le_refl _) hbn.size)
      have hil : (Tryd.prog.info? 96).map (·.size) = some (rc L (.slice E ne ce) 1).size := rc_info hl20
      have hsl : (#[.int .i64 0, .int .i64 0, .int .i64 0, .int .i64 0, .int .i64 0, .int .i64 0, .int .i64 0, .int .i64 0, .int .i64 0, .int .i64 0, .int .i64 0, .int .i64 0, .int .i64 0, .int .i64 0, .int .i64 0, .int .i64 0, .int .i64 0, .int .i64 0, .int .i64 0, .int .i64 0, .slice none 0 0, .int .i64 0] : Array Value).size = (rc L (.slice E ne ce) 1).size := by rw [rc_size hl20]; rfl
      have h1l : (rc L (.slice E ne ce) 1).all (·.oneCell') = true := rc_one rfl
      have hof : Out (w.heap.size + 1) (w.heap.size + 2) wr (wr.setRow (w.heap.size + 1) (rc L (.slice E ne ce) 1)) := out_setRow ⟨by omega, by omega⟩
      have hsf := hof.size
      have hsll := hol.size
      have hbs := hbn.size
      have hOf := ((hOl.out hof (by omega)).less (lo' := w.heap.size) (by omega)).wide (hi' := _) (by omega) (Nat.le_refl _)
      have hbf := (hbw4.trans (hbl.mono (by omega))).trans (hof.below (by omega) (by omega))
      have HOF := Lib.hid hOf
      clear hOf hOl hOn
      go_wp2_with (first
        | (refine wpList_load_row rfl 96 _ rfl w4.heap.size rfl 96 (rc L (.slice E ne ce) 1) (0, 0) _ hBl Tryd.underlying96 rfl hil ?_)
        | (refine wpList_store_rowTo rfl 96 _ _ rfl rfl (w.heap.size + 1) (rc L (.slice E ne ce) 1) rfl rfl 96 #[.int .i64 0, .int .i64 0, .int .i64 0, .int .i64 0, .int .i64 0, .int .i64 0, .int .i64 0, .int .i64 0, .int .i64 0, .int .i64 0, .int .i64 0, .int .i64 0, .int .i64 0, .int .i64 0, .int .i64 0, .int .i64 0, .int .i64 0, .int .i64 0, .int .i64 0, .int .i64 0, .slice none 0 0, .int .i64 0] hRl hil hsl h1l ?_)
        | fail)
      rw [Exit.noGoto_ret]
      refine bodyPost_ret (results_run rfl _ _ (w.heap.size + 1) L (.slice E ne ce) 1 (.bool true) hl20 rfl rfl (blk_setRow hRl)) rfl ?_
      exact ⟨L, E, ne, ce, 1, by rw [HRB.out], hl20, hbf, fun _ => by rw [HEF.out, HRUN.out]; exact ⟨rfl, HRP.out, HOF.out⟩⟩
    · have eqT : decide ((i : Int) < f) = true := by have := hF.out; have := HRT.out.1; simp; omega
      have HLT : Hid (i < F) := by have := HRT.out.1; show _ < _; omega
      clear hiF
      have hvd : CfV dv dz ds dp := HRT.out.2.2.1
      have HAF := Lib.hid (after_c C k cc cs L dv dz ds dp wr ((HC4.out.next hbn (by omega)).more (by omega)) HCODE.out HRP.out hvd)
      have hbR := hBn
      have HOW0 := HOW
      clear hvd
      go_wp2_with (first
        | (refine load_mc rfl _ rfl w4.heap.size rfl hl20 hBn ?_)
        | fail)
      refine HAF.out.mono ?_
      rintro e w5 ⟨L2, rfl, hl2, hst, hgo, hb5⟩
      have hrep := aft_rep HRP.out hst hgo
      obtain ⟨⟨v4, z8, s6, pp⟩, hbe⟩ : ∃ x, Hid (behN cs (dv, dz, ds, dp) = x) := ⟨_, rfl⟩
      obtain ⟨oo, HOO⟩ : ∃ x, Hid (outN cs ds dp = x) := ⟨_, rfl⟩
      rw [HOO.out]
      rw [hbe.out] at hrep
      have HRP2 : Hid (Rep L2 v4 z8 s6 pp) := hrep
      have hZ : BlkIs (w5.alloc (.cells #[.int .i64 0, .int .i64 0, .int .i64 0, .int .i64 0, .int .i64 0, .int .i64 0, .int .i64 0, .int .i64 0, .int .i64 0, .int .i64 0, .int .i64 0, .int .i64 0, .int .i64 0, .int .i64 0, .int .i64 0, .int .i64 0, .int .i64 0, .int .i64 0, .int .i64 0, .int .i64 0] 94)) w5.heap.size 94 #[.int .i64 0, .int .i64 0, .int .i64 0, .int .i64 0, .int .i64 0, .int .i64 0, .int .i64 0, .int .i64 0, .int .i64 0, .int .i64 0, .int .i64 0, .int .i64 0, .int .i64 0, .int .i64 0, .int .i64 0, .int .i64 0, .int .i64 0, .int .i64 0, .int .i64 0, .int .i64 0] := blk_new _ _ _ _ rfl
      have hoM : Out w5.heap.size (w5.heap.size + 1) w5 ((w5.alloc (.cells #[.int .i64 0, .int .i64 0, .int .i64 0, .int .i64 0, .int .i64 0, .int .i64 0, .int .i64 0, .int .i64 0, .int .i64 0, .int .i64 0, .int .i64 0, .int .i64 0, .int .i64 0, .int .i64 0, .int .i64 0, .int .i64 0, .int .i64 0, .int .i64 0, .int .i64 0, .int .i64 0] 94)).setRow w5.heap.size (mc L2)) := (Out.of_below (bnew _ _)).trans (out_setRow (by omega))
      have hbM : Below w5.heap.size w5 ((w5.alloc (.cells #[.int .i64 0, .int .i64 0, .int .i64 0, .int .i64 0, .int .i64 0, .int .i64 0, .int .i64 0, .int .i64 0, .int .i64 0, .int .i64 0, .int .i64 0, .int .i64 0, .int .i64 0, .int .i64 0, .int .i64 0, .int .i64 0, .int .i64 0, .int .i64 0, .int .i64 0, .int .i64 0] 94)).setRow w5.heap.size (mc L2)) := hoM.below (Nat.le_refl _) (Nat.le_refl _)
      have hM : BlkIs ((w5.alloc (.cells #[.int .i64 0, .int .i64 0, .int .i64 0, .int .i64 0, .int .i64 0, .int .i64 0, .int .i64 0, .int .i64 0, .int .i64 0, .int .i64 0, .int .i64 0, .int .i64 0, .int .i64 0, .int .i64 0, .int .i64 0, .int .i64 0, .int .i64 0, .int .i64 0, .int .i64 0, .int .i64 0] 94)).setRow w5.heap.size (mc L2)) w5.heap.size 94 (mc L2) := blk_setRow hZ
      have hiM := mach_info hl2
      have hsM : (#[.int .i64 0, .int .i64 0, .int .i64 0, .int .i64 0, .int .i64 0, .int .i64 0, .int .i64 0, .int .i64 0, .int .i64 0, .int .i64 0, .int .i64 0, .int .i64 0, .int .i64 0, .int .i64 0, .int .i64 0, .int .i64 0, .int .i64 0, .int .i64 0, .int .i64 0, .int .i64 0] : Array Value).size = (mc L2).size := by rw [mc_size, hl2]; rfl
      have h1M := mc_one L2
      have hs5 := hb5.size
      have hs6 := hbM.size
      have hrbn : w4.heap.size < wr.heap.size := hBn.lt
      replace hBn := (hBn.next hb5).next hbM
      replace hRn := (hRn.next hb5).next hbM
      replace hOn := (hOn.next hb5).next hbM
      replace hbn := bon (bon hbn hb5) hbM
      clear HAF HOW hst hgo hrep hb5 hbM hoM hbR
      by_cases h6 : oo = 6
      · subst h6
        clear HRP2 hM
        have HRUN := Lib.hid (show runN cs F (c0R [x0, x1, x2, x3] [y0, y1, y2, y3, y4, y5, y6, y7]) = ((dv, dz, ds, dp), ks, 0) from (by rw [HRT.out.stop HLT.out (show outC cs (dv, dz, ds, dp) ≠ 0 from by show outN cs ds dp ≠ 0; rw [HOO.out]; decide)]; show (_, _, endO (outN cs ds dp)) = _; rw [HOO.out]; rfl))
        have y21 := hBn.frozen 21
        have c21 : ((w5.alloc (.cells #[.int .i64 0, .int .i64 0, .int .i64 0, .int .i64 0, .int .i64 0, .int .i64 0, .int .i64 0, .int .i64 0, .int .i64 0, .int .i64 0, .int .i64 0, .int .i64 0, .int .i64 0, .int .i64 0, .int .i64 0, .int .i64 0, .int .i64 0, .int .i64 0, .int .i64 0, .int .i64 0] 94)).setRow w5.heap.size (mc L2)).cell? ⟨w4.heap.size, 21, none⟩ = some (.int .i64 1) := (hBn.cell 21).trans (rc_out hl20)
        have hBl : BlkIs (((w5.alloc (.cells #[.int .i64 0, .int .i64 0, .int .i64 0, .int .i64 0, .int .i64 0, .int .i64 0, .int .i64 0, .int .i64 0, .int .i64 0, .int .i64 0, .int .i64 0, .int .i64 0, .int .i64 0, .int .i64 0, .int .i64 0, .int .i64 0, .int .i64 0, .int .i64 0, .int .i64 0, .int .i64 0] 94)).setRow w5.heap.size (mc L2)).setCell ⟨w4.heap.size, 21, none⟩ (.int .i64 0)) w4.heap.size 96 (rc L (.slice E ne ce) 0) := by have h := hBn.set 21 (.int .i64 0); rw [rc_setO hl20] at h; exact h
        have hol : Out w4.heap.size (w4.heap.size + 1) ((w5.alloc (.cells #[.int .i64 0, .int .i64 0, .int .i64 0, .int .i64 0, .int .i64 0, .int .i64 0, .int .i64 0, .int .i64 0, .int .i64 0, .int .i64 0, .int .i64 0, .int .i64 0, .int .i64 0, .int .i64 0, .int .i64 0, .int .i64 0, .int .i64 0, .int .i64 0, .int .i64 0, .int .i64 0] 94)).setRow w5.heap.size (mc L2)) (((w5.alloc (.cells #[.int .i64 0, .int .i64 0, .int .i64 0, .int .i64 0, .int .i64 0, .int .i64 0, .int .i64 0, .int .i64 0, .int .i64 0, .int .i64 0, .int .i64 0, .int .i64 0, .int .i64 0, .int .i64 0, .int .i64 0, .int .i64 0, .int .i64 0, .int .i64 0, .int .i64 0, .int .i64 0] 94)).setRow w5.heap.size (mc L2)).setCell ⟨w4.heap.size, 21, none⟩ (.int .i64 0)) := out_set (Out.refl _ _ _) (by omega)
        have hRl := hRn.out hol (by omega)
        have hOl := hOn.out hol (by omega)
        have hbl := hbn.trans (hol.below (Nat.le_refl _) hbn.size)
        have hil : (Tryd.prog.info? 96).map (·.size) = some (rc L (.slice E ne ce) 0).size := rc_info hl20
        have hsl : (#[.int .i64 0, .int .i64 0, .int .i64 0, .int .i64 0, .int .i64 0, .int .i64 0, .int .i64 0, .int .i64 0, .int .i64 0, .int .i64 0, .int .i64 0, .int .i64 0, .int .i64 0, .int .i64 0, .int .i64 0, .int .i64 0, .int .i64 0, .int .i64 0, .int .i64 0, .int .i64 0, .slice none 0 0, .int .i64 0] : Array Value).size = (rc L (.slice E ne ce) 0).size := by rw [rc_size hl20]; rfl
        have h1l : (rc L (.slice E ne ce) 0).all (·.oneCell') = true := rc_one rfl
        have hof : Out (w.heap.size + 1) (w.heap.size + 2) (((w5.alloc (.cells #[.int .i64 0, .int .i64 0, .int .i64 0, .int .i64 0, .int .i64 0, .int .i64 0, .int .i64 0, .int .i64 0, .int .i64 0, .int .i64 0, .int .i64 0, .int .i64 0, .int .i64 0, .int .i64 0, .int .i64 0, .int .i64 0, .int .i64 0, .int .i64 0, .int .i64 0, .int .i64 0] 94)).setRow w5.heap.size (mc L2)).setCell ⟨w4.heap.size, 21, none⟩ (.int .i64 0)) ((((w5.alloc (.cells #[.int .i64 0, .int .i64 0, .int .i64 0, .int .i64 0, .int .i64 0, .int .i64 0, .int .i64 0, .int .i64 0, .int .i64 0, .int .i64 0, .int .i64 0, .int .i64 0, .int .i64 0, .int .i64 0, .int .i64 0, .int .i64 0, .int .i64 0, .int .i64 0, .int .i64 0, .int .i64 0] 94)).setRow w5.heap.size (mc L2)).setCell ⟨w4.heap.size, 21, none⟩ (.int .i64 0)).setRow (w.heap.size + 1) (rc L (.slice E ne ce) 0)) := out_setRow ⟨by omega, by omega⟩
        have hsf := hof.size
        have hsll := hol.size
        have hbs := hbn.size
        have hOf := ((hOl.out hof (by omega)).less (lo' := w.heap.size) (by omega)).wide (hi' := _) (by omega) (Nat.le_refl _)
        have hbf := (hbw4.trans (hbl.mono (by omega))).trans (hof.below (by omega) (by omega))
        have HOF := Lib.hid hOf
        clear hOf hOl hOn
        go_wp2_with (first
          | (refine wpList_store_rowTo rfl 94 _ _ rfl rfl w5.heap.size (mc L2) rfl rfl 94 #[.int .i64 0, .int .i64 0, .int .i64 0, .int .i64 0, .int .i64 0, .int .i64 0, .int .i64 0, .int .i64 0, .int .i64 0, .int .i64 0, .int .i64 0, .int .i64 0, .int .i64 0, .int .i64 0, .int .i64 0, .int .i64 0, .int .i64 0, .int .i64 0, .int .i64 0, .int .i64 0] hZ hiM hsM h1M ?_)
          | (refine wpList_load_row rfl 96 _ rfl w4.heap.size rfl 96 (rc L (.slice E ne ce) 0) (0, 0) _ hBl Tryd.underlying96 rfl hil ?_)
          | (refine wpList_store_rowTo rfl 96 _ _ rfl rfl (w.heap.size + 1) (rc L (.slice E ne ce) 0) rfl rfl 96 #[.int .i64 0, .int .i64 0, .int .i64 0, .int .i64 0, .int .i64 0, .int .i64 0, .int .i64 0, .int .i64 0, .int .i64 0, .int .i64 0, .int .i64 0, .int .i64 0, .int .i64 0, .int .i64 0, .int .i64 0, .int .i64 0, .int .i64 0, .int .i64 0, .int .i64 0, .int .i64 0, .slice none 0 0, .int .i64 0] hRl hil hsl h1l ?_)
          | fail)
        rw [Exit.noGoto_ret]
        refine bodyPost_ret (results_run rfl _ _ (w.heap.size + 1) L (.slice E ne ce) 0 (.bool true) hl20 rfl rfl (blk_setRow hRl)) rfl ?_
        exact ⟨L, E, ne, ce, 0, by rw [HRB.out], hl20, hbf, fun _ => by rw [HEF.out, HRUN.out]; exact ⟨rfl, HRP.out, HOF.out⟩⟩
      · by_cases hz : oo = 0
        · subst hz
          have hoc : outC cs (dv, dz, ds, dp) = 0 := HOO.out
          have hRT2 := HRT.out.go HCODE.out HLT.out hoc
          have hnx : nextN cs (dv, dz, ds, dp) = (v4, z8, s6, pp) := by rw [← hbe.out]; exact (behN_go HOO.out).symm
          rw [hnx] at hRT2
          have HRT2 : Hid (RunTo cs F (c0R [x0, x1, x2, x3] [y0, y1, y2, y3, y4, y5, y6, y7]) (i + 1) (v4, z8, s6, pp) (ks ++ [dp])) := hRT2
          have hkn : ks.length = i := HRT.out.2.1
          have hnk : ks.length = ne := HOW0.out.1
          have hltF := HLT.out
          have wri : IntKind.i64.wrap ((i : Int) + 1) = (i : Int) + 1 := IntWalk.i64_in _ (by omega)
          have c20 : ((w5.alloc (.cells #[.int .i64 0, .int .i64 0, .int .i64 0, .int .i64 0, .int .i64 0, .int .i64 0, .int .i64 0, .int .i64 0, .int .i64 0, .int .i64 0, .int .i64 0, .int .i64 0, .int .i64 0, .int .i64 0, .int .i64 0, .int .i64 0, .int .i64 0, .int .i64 0, .int .i64 0, .int .i64 0] 94)).setRow w5.heap.size (mc L2)).cell? ⟨w4.heap.size, 20, none⟩ = some (.slice E ne ce) := (hBn.cell 20).trans (rc_exec hl20)
          have y20 := hBn.frozen 20
          have c19 : ((w5.alloc (.cells #[.int .i64 0, .int .i64 0, .int .i64 0, .int .i64 0, .int .i64 0, .int .i64 0, .int .i64 0, .int .i64 0, .int .i64 0, .int .i64 0, .int .i64 0, .int .i64 0, .int .i64 0, .int .i64 0, .int .i64 0, .int .i64 0, .int .i64 0, .int .i64 0, .int .i64 0, .int .i64 0] 94)).setRow w5.heap.size (mc L2)).cell? ⟨w4.heap.size, 19, none⟩ = some (.int .i64 dp) := (hBn.cell 19).trans (rc_at HRP.out.a)
          have hbal := bnew ((w5.alloc (.cells #[.int .i64 0, .int .i64 0, .int .i64 0, .int .i64 0, .int .i64 0, .int .i64 0, .int .i64 0, .int .i64 0, .int .i64 0, .int .i64 0, .int .i64 0, .int .i64 0, .int .i64 0, .int .i64 0, .int .i64 0, .int .i64 0, .int .i64 0, .int .i64 0, .int .i64 0, .int .i64 0] 94)).setRow w5.heap.size (mc L2)) (.cells #[.int .i64 dp] 2)
          have hsal : (((w5.alloc (.cells #[.int .i64 0, .int .i64 0, .int .i64 0, .int .i64 0, .int .i64 0, .int .i64 0, .int .i64 0, .int .i64 0, .int .i64 0, .int .i64 0, .int .i64 0, .int .i64 0, .int .i64 0, .int .i64 0, .int .i64 0, .int .i64 0, .int .i64 0, .int .i64 0, .int .i64 0, .int .i64 0] 94)).setRow w5.heap.size (mc L2)).alloc (.cells #[.int .i64 dp] 2)).heap.size = ((w5.alloc (.cells #[.int .i64 0, .int .i64 0, .int .i64 0, .int .i64 0, .int .i64 0, .int .i64 0, .int .i64 0, .int .i64 0, .int .i64 0, .int .i64 0, .int .i64 0, .int .i64 0, .int .i64 0, .int .i64 0, .int .i64 0, .int .i64 0, .int .i64 0, .int .i64 0, .int .i64 0, .int .i64 0] 94)).setRow w5.heap.size (mc L2)).heap.size + 1 := by simp
          have hsn2 : ((w5.alloc (.cells #[.int .i64 0, .int .i64 0, .int .i64 0, .int .i64 0, .int .i64 0, .int .i64 0, .int .i64 0, .int .i64 0, .int .i64 0, .int .i64 0, .int .i64 0, .int .i64 0, .int .i64 0, .int .i64 0, .int .i64 0, .int .i64 0, .int .i64 0, .int .i64 0, .int .i64 0, .int .i64 0] 94)).setRow w5.heap.size (mc L2)).heap.size = w5.heap.size + 1 := by simp
          have s4 := (hOn.next hbal).2.1
          have hhi := hOn.2.2.1
          have HARM : Hid (∀ g2 c2 w6, w6.ownsRow (w4.heap.size + 1) 2 1 (.slice (some ⟨g2, 0, none⟩) (ne + 1) c2) (ne + 1) (ks.map ic ++ [.int .i64 dp]) → (((w5.alloc (.cells #[.int .i64 0, .int .i64 0, .int .i64 0, .int .i64 0, .int .i64 0, .int .i64 0, .int .i64 0, .int .i64 0, .int .i64 0, .int .i64 0, .int .i64 0, .int .i64 0, .int .i64 0, .int .i64 0, .int .i64 0, .int .i64 0, .int .i64 0, .int .i64 0, .int .i64 0, .int .i64 0] 94)).setRow w5.heap.size (mc L2)).alloc (.cells #[.int .i64 dp] 2)).grownBy w6 (Value.slice E ne ce).ownBlock → BlkIs w6 w4.heap.size 96 (rc L (.slice E ne ce) 1) ∧ BlkIs (w6.setCell ⟨w4.heap.size, 20, none⟩ (.slice (some ⟨g2, 0, none⟩) (ne + 1) c2)) w5.heap.size 94 (mc L2) ∧ BlkIs (w6.setCell ⟨w4.heap.size, 20, none⟩ (.slice (some ⟨g2, 0, none⟩) (ne + 1) c2)) w4.heap.size 96 (rc L (.slice (some ⟨g2, 0, none⟩) (ne + 1) c2) 1) ∧ BlkIs ((w6.setCell ⟨w4.heap.size, 20, none⟩ (.slice (some ⟨g2, 0, none⟩) (ne + 1) c2)).setRow w4.heap.size (rc L2 (.slice (some ⟨g2, 0, none⟩) (ne + 1) c2) 1)) w4.heap.size 96 (rc L2 (.slice (some ⟨g2, 0, none⟩) (ne + 1) c2) 1) ∧ OwnL ((w6.setCell ⟨w4.heap.size, 20, none⟩ (.slice (some ⟨g2, 0, none⟩) (ne + 1) c2)).setRow w4.heap.size (rc L2 (.slice (some ⟨g2, 0, none⟩) (ne + 1) c2) 1)) (w4.heap.size + 1) ((w6.setCell ⟨w4.heap.size, 20, none⟩ (.slice (some ⟨g2, 0, none⟩) (ne + 1) c2)).setRow w4.heap.size (rc L2 (.slice (some ⟨g2, 0, none⟩) (ne + 1) c2) 1)).heap.size (some ⟨g2, 0, none⟩) (ne + 1) c2 (ks ++ [dp]) ∧ Below w4.heap.size w4 ((w6.setCell ⟨w4.heap.size, 20, none⟩ (.slice (some ⟨g2, 0, none⟩) (ne + 1) c2)).setRow w4.heap.size (rc L2 (.slice (some ⟨g2, 0, none⟩) (ne + 1) c2) 1))) := by
            intro g2 c2 w6 hown hgrow
            have hr := own_cons hown
            have hog : Out (w4.heap.size + 1) wr.heap.size (((w5.alloc (.cells #[.int .i64 0, .int .i64 0, .int .i64 0, .int .i64 0, .int .i64 0, .int .i64 0, .int .i64 0, .int .i64 0, .int .i64 0, .int .i64 0, .int .i64 0, .int .i64 0, .int .i64 0, .int .i64 0, .int .i64 0, .int .i64 0, .int .i64 0, .int .i64 0, .int .i64 0, .int .i64 0] 94)).setRow w5.heap.size (mc L2)).alloc (.cells #[.int .i64 dp] 2)) w6 := Out.of_grown hgrow (fun k hk => ⟨(s4.lt k hk).1, hhi k hk⟩)
            have hsg := hog.size
            have b1 := (hBn.next hbal).out hog (by omega)
            have m1 := (hM.next hbal).out hog (by omega)
            have ho8 : Out w4.heap.size (w4.heap.size + 1) w6 (w6.setCell ⟨w4.heap.size, 20, none⟩ (.slice (some ⟨g2, 0, none⟩) (ne + 1) c2)) := out_set (Out.refl _ _ _) (by omega)
            have ho9 : Out w4.heap.size (w4.heap.size + 1) (w6.setCell ⟨w4.heap.size, 20, none⟩ (.slice (some ⟨g2, 0, none⟩) (ne + 1) c2)) ((w6.setCell ⟨w4.heap.size, 20, none⟩ (.slice (some ⟨g2, 0, none⟩) (ne + 1) c2)).setRow w4.heap.size (rc L2 (.slice (some ⟨g2, 0, none⟩) (ne + 1) c2) 1)) := out_setRow (by omega)
            have h8s := ho8.size
            have h9s := ho9.size
            have b8 : BlkIs (w6.setCell ⟨w4.heap.size, 20, none⟩ (.slice (some ⟨g2, 0, none⟩) (ne + 1) c2)) w4.heap.size 96 (rc L (.slice (some ⟨g2, 0, none⟩) (ne + 1) c2) 1) := by have h := b1.set 20 (.slice (some ⟨g2, 0, none⟩) (ne + 1) c2); rw [rc_setE hl20] at h; exact h
            have hbs := hbn.size
            refine ⟨b1, m1.out ho8 (by omega), b8, blk_setRow b8, ((hr.out ho8 (by omega)).out ho9 (by omega)).wide (by omega) (Nat.le_refl _), ?_⟩
            exact (((hbn.trans (hbal.mono (by omega))).trans (hog.below (by omega) (by omega))).trans (ho8.below (by omega) (by omega))).trans (ho9.below (by omega) (by omega))
          clear hBn hRn hOn hbn hhi hRT2 hoc hnx hM
          go_wp2_with (first
            | (refine wpList_store_rowTo rfl 94 _ _ rfl rfl w5.heap.size (mc L2) rfl rfl 94 #[.int .i64 0, .int .i64 0, .int .i64 0, .int .i64 0, .int .i64 0, .int .i64 0, .int .i64 0, .int .i64 0, .int .i64 0, .int .i64 0, .int .i64 0, .int .i64 0, .int .i64 0, .int .i64 0, .int .i64 0, .int .i64 0, .int .i64 0, .int .i64 0, .int .i64 0, .int .i64 0] hZ hiM hsM h1M ?_)
            | (at_builtin; refine wpList_append_sep rfl _ _ 24 rfl (w4.heap.size + 1) 2 i0 (.int .i64 0) 1 8 Tryd.underlying24 hif hz0 hz1 hz2 rfl (by decide) _ ne (ks.map ic) rfl s4 ⟨w5.heap.size + 1, 0, none⟩ 1 1 [.int .i64 dp] rfl rfl (cell_one_at _ _ _ _ (by simp)) (fun u hu => by simp at hu; subst hu; rfl) (by unfold maxLen; omega) (by omega) (by omega) (by decide) ?_; intro g2 c2 w6 hown hgrow hsep; obtain ⟨d1, d2, d3, d4, d5, d6⟩ := HARM.out g2 c2 w6 hown hgrow; have c6 : w6.cell? ⟨w4.heap.size, 20, none⟩ = some (.slice E ne ce) := (d1.cell 20).trans (rc_exec hl20); have y6 := d1.frozen 20; have HOW2 := Lib.hid d5; clear hown hgrow hsep d1 d5)
            | (refine wpList_load_row rfl 94 _ rfl w5.heap.size rfl 94 (mc L2) (0, 0) _ d2 Tryd.underlying94 rfl hiM ?_)
            | (refine store_mc rfl _ _ rfl rfl w4.heap.size rfl rfl hl20 hl2 d3 ?_)
            | fail)
          go_roundw
          case rel => exact ⟨i + 1, L2, some ⟨g2, 0, none⟩, ne + 1, c2, v4, z8, s6, pp, ks ++ [dp], by go_num, HRT2, HRP2, d4, HOW2, d6⟩
          case measure => simp [intOf]; omega
        · have e6 : (oo == 6) = false := by simp; omega
          have e0 : (oo == 0) = false := by simp; omega
          clear HRP2 hM
          have HRUN := Lib.hid (show runN cs F (c0R [x0, x1, x2, x3] [y0, y1, y2, y3, y4, y5, y6, y7]) = ((dv, dz, ds, dp), ks, oo) from (by rw [HRT.out.stop HLT.out (show outC cs (dv, dz, ds, dp) ≠ 0 from by show outN cs ds dp ≠ 0; rw [HOO.out]; exact hz)]; show (_, _, endO (outN cs ds dp)) = _; rw [HOO.out]; unfold endO; rw [if_neg h6]))
          have y21 := hBn.frozen 21
          have c21 : ((w5.alloc (.cells #[.int .i64 0, .int .i64 0, .int .i64 0, .int .i64 0, .int .i64 0, .int .i64 0, .int .i64 0, .int .i64 0, .int .i64 0, .int .i64 0, .int .i64 0, .int .i64 0, .int .i64 0, .int .i64 0, .int .i64 0, .int .i64 0, .int .i64 0, .int .i64 0, .int .i64 0, .int .i64 0] 94)).setRow w5.heap.size (mc L2)).cell? ⟨w4.heap.size, 21, none⟩ = some (.int .i64 1) := (hBn.cell 21).trans (rc_out hl20)
          have hBl : BlkIs (((w5.alloc (.cells #[.int .i64 0, .int .i64 0, .int .i64 0, .int .i64 0, .int .i64 0, .int .i64 0, .int .i64 0, .int .i64 0, .int .i64 0, .int .i64 0, .int .i64 0, .int .i64 0, .int .i64 0, .int .i64 0, .int .i64 0, .int .i64 0, .int .i64 0, .int .i64 0, .int .i64 0, .int .i64 0] 94)).setRow w5.heap.size (mc L2)).setCell ⟨w4.heap.size, 21, none⟩ (.int .i64 oo)) w4.heap.size 96 (rc L (.slice E ne ce) oo) := by have h := hBn.set 21 (.int .i64 oo); rw [rc_setO hl20] at h; exact h
          have hol : Out w4.heap.size (w4.heap.size + 1) ((w5.alloc (.cells #[.int .i64 0, .int .i64 0, .int .i64 0, .int .i64 0, .int .i64 0, .int .i64 0, .int .i64 0, .int .i64 0, .int .i64 0, .int .i64 0, .int .i64 0, .int .i64 0, .int .i64 0, .int .i64 0, .int .i64 0, .int .i64 0, .int .i64 0, .int .i64 0, .int .i64 0, .int .i64 0] 94)).setRow w5.heap.size (mc L2)) (((w5.alloc (.cells #[.int .i64 0, .int .i64 0, .int .i64 0, .int .i64 0, .int .i64 0, .int .i64 0, .int .i64 0, .int .i64 0, .int .i64 0, .int .i64 0, .int .i64 0, .int .i64 0, .int .i64 0, .int .i64 0, .int .i64 0, .int .i64 0, .int .i64 0, .int .i64 0, .int .i64 0, .int .i64 0] 94)).setRow w5.heap.size (mc L2)).setCell ⟨w4.heap.size, 21, none⟩ (.int .i64 oo)) := out_set (Out.refl _ _ _) (by omega)
          have hRl := hRn.out hol (by omega)
          have hOl := hOn.out hol (by omega)
          have hbl := hbn.trans (hol.below (Nat.le_refl _) hbn.size)
          have hil : (Tryd.prog.info? 96).map (·.size) = some (rc L (.slice E ne ce) oo).size := rc_info hl20
          have hsl : (#[.int .i64 0, .int .i64 0, .int .i64 0, .int .i64 0, .int .i64 0, .int .i64 0, .int .i64 0, .int .i64 0, .int .i64 0, .int .i64 0, .int .i64 0, .int .i64 0, .int .i64 0, .int .i64 0, .int .i64 0, .int .i64 0, .int .i64 0, .int .i64 0, .int .i64 0, .int .i64 0, .slice none 0 0, .int .i64 0] : Array Value).size = (rc L (.slice E ne ce) oo).size := by rw [rc_size hl20]; rfl
          have h1l : (rc L (.slice E ne ce) oo).all (·.oneCell') = true := rc_one rfl
          have hof : Out (w.heap.size + 1) (w.heap.size + 2) (((w5.alloc (.cells #[.int .i64 0, .int .i64 0, .int .i64 0, .int .i64 0, .int .i64 0, .int .i64 0, .int .i64 0, .int .i64 0, .int .i64 0, .int .i64 0, .int .i64 0, .int .i64 0, .int .i64 0, .int .i64 0, .int .i64 0, .int .i64 0, .int .i64 0, .int .i64 0, .int .i64 0, .int .i64 0] 94)).setRow w5.heap.size (mc L2)).setCell ⟨w4.heap.size, 21, none⟩ (.int .i64 oo)) ((((w5.alloc (.cells #[.int .i64 0, .int .i64 0, .int .i64 0, .int .i64 0, .int .i64 0, .int .i64 0, .int .i64 0, .int .i64 0, .int .i64 0, .int .i64 0, .int .i64 0, .int .i64 0, .int .i64 0, .int .i64 0, .int .i64 0, .int .i64 0, .int .i64 0, .int .i64 0, .int .i64 0, .int .i64 0] 94)).setRow w5.heap.size (mc L2)).setCell ⟨w4.heap.size, 21, none⟩ (.int .i64 oo)).setRow (w.heap.size + 1) (rc L (.slice E ne ce) oo)) := out_setRow ⟨by omega, by omega⟩
          have hsf := hof.size
          have hsll := hol.size
          have hbs := hbn.size
          have hOf := ((hOl.out hof (by omega)).less (lo' := w.heap.size) (by omega)).wide (hi' := _) (by omega) (Nat.le_refl _)
          have hbf := (hbw4.trans (hbl.mono (by omega))).trans (hof.below (by omega) (by omega))
          have HOF := Lib.hid hOf
          clear hOf hOl hOn
          go_wp2_with (first
            | (refine wpList_store_rowTo rfl 94 _ _ rfl rfl w5.heap.size (mc L2) rfl rfl 94 #[.int .i64 0, .int .i64 0, .int .i64 0, .int .i64 0, .int .i64 0, .int .i64 0, .int .i64 0, .int .i64 0, .int .i64 0, .int .i64 0, .int .i64 0, .int .i64 0, .int .i64 0, .int .i64 0, .int .i64 0, .int .i64 0, .int .i64 0, .int .i64 0, .int .i64 0, .int .i64 0] hZ hiM hsM h1M ?_)
            | (refine wpList_load_row rfl 96 _ rfl w4.heap.size rfl 96 (rc L (.slice E ne ce) oo) (0, 0) _ hBl Tryd.underlying96 rfl hil ?_)
            | (refine wpList_store_rowTo rfl 96 _ _ rfl rfl (w.heap.size + 1) (rc L (.slice E ne ce) oo) rfl rfl 96 #[.int .i64 0, .int .i64 0, .int .i64 0, .int .i64 0, .int .i64 0, .int .i64 0, .int .i64 0, .int .i64 0, .int .i64 0, .int .i64 0, .int .i64 0, .int .i64 0, .int .i64 0, .int .i64 0, .int .i64 0, .int .i64 0, .int .i64 0, .int .i64 0, .int .i64 0, .int .i64 0, .slice none 0 0, .int .i64 0] hRl hil hsl h1l ?_)
            | fail)
          rw [Exit.noGoto_ret]
          refine bodyPost_ret (results_run rfl _ _ (w.heap.size + 1) L (.slice E ne ce) oo (.bool true) hl20 rfl rfl (blk_setRow hRl)) rfl ?_
          exact ⟨L, E, ne, ce, oo, by rw [HRB.out], hl20, hbf, fun _ => by rw [HEF.out, HRUN.out]; exact ⟨rfl, HRP.out, HOF.out⟩⟩

theorem codeRunOf_c (C : Option Addr) (k cc : Nat) (cs : List (Int × Int)) (A : Option Addr) (n c : Nat) (vs : List Int) (A' : Option Addr) (m c' : Nat) (zs : List Int) (f : Int) (w : World)
    (hc : InC w w.heap.size C k cs) (h0 : InL w w.heap.size A n vs) (h1 : InL w w.heap.size A' m zs) (hk : k ≤ 1048576) (hn : n ≤ 1048576) (hm : m ≤ 1048576) :
    Calls Tryd.prog 60 #[.slice C k cc, .agg #[.slice A n c, .slice A' m c'], .int .i64 f] w (RunIQ cs vs zs f w) := by
  cases hv : runB cs vs zs f with
  | false => exact codeRunOf_no C k cc cs A n c vs A' m c' zs f w hc h0 h1 hk hn hm hv
  | true => exact codeRunOf_yes C k cc cs A n c vs A' m c' zs f w hc h0 h1 hk hn hm hv

set_option maxRecDepth 100000 in
set_option maxHeartbeats 8000000 in
theorem implCount_c (C : Option Addr) (k cc : Nat) (cs : List (Int × Int)) (A : Option Addr) (n c : Nat) (vs : List Int) (A' : Option Addr) (m c' : Nat) (zs : List Int) (f : Int) (w : World)
    (hc : InC w w.heap.size C k cs) (h0 : InL w w.heap.size A n vs) (h1 : InL w w.heap.size A' m zs) (hk : k ≤ 1048576) (hn : n ≤ 1048576) (hm : m ≤ 1048576) :
    Calls Tryd.prog 26 #[.slice C k cc, .agg #[.slice A n c, .slice A' m c'], .int .i64 f] w fun e w' => ∃ R d, e = .returned (.tuple #[.slice R (cntR cs vs zs f).1.length d, .bool (cntR cs vs zs f).2]) ∧ OwnL w' w.heap.size w'.heap.size R (cntR cs vs zs f).1.length d (cntR cs vs zs f).1 ∧ Below w.heap.size w w' := by
  obtain ⟨i0, hif, hz0, hz1, hz2⟩ := info_parts info64
  have hb0 := bnew w (.cells #[.slice A n c, .slice A' m c'] 46)
  have hP : BlkIs (w.alloc (.cells #[.slice A n c, .slice A' m c'] 46)) w.heap.size 46 #[.slice A n c, .slice A' m c'] := blk_new _ _ _ _ rfl
  have hsz : (w.alloc (.cells #[.slice A n c, .slice A' m c'] 46)).heap.size = w.heap.size + 1 := by simp
  have p0 : (w.alloc (.cells #[.slice A n c, .slice A' m c'] 46)).cell? ⟨w.heap.size, 0, none⟩ = some (.slice A n c) := hP.cell 0
  have p1 : (w.alloc (.cells #[.slice A n c, .slice A' m c'] 46)).cell? ⟨w.heap.size, 1, none⟩ = some (.slice A' m c') := hP.cell 1
  have HRI := Lib.hid (codeRunOf_c C k cc cs A n c vs A' m c' zs f (w.alloc (.cells #[.slice A n c, .slice A' m c'] 46)) ((hc.next hb0 (Nat.le_refl _)).more hb0.size) ((h0.next hb0 (Nat.le_refl _)).more hb0.size) ((h1.next hb0 (Nat.le_refl _)).more hb0.size) hk hn hm)
  obtain ⟨R, HR⟩ : ∃ R, Hid (cntR cs vs zs f = R) := ⟨_, rfl⟩
  rw [HR.out]
  have hkk := hc.1
  clear hc h0 h1 hP
  cases hv : runB cs vs zs f with
  | false =>
    have HN := Lib.hid (HR.out.symm.trans (cntR_no hv))
    have HV := Lib.hid hv
    clear hv
    go_enter Tryd.func26, Tryd.ntmps26
    go_wp2_with fail
    generalize w.alloc (.cells #[.slice A n c, .slice A' m c'] 46) = W at hb0 hsz HRI p0 p1 ⊢
    refine HRI.out.mono ?_
    rintro e w1 ⟨L, E, ne, ce, o, rfl, hl20, hb1, -⟩
    rw [HV.out]
    have hZ : BlkIs (w1.alloc (.cells #[.int .i64 0, .int .i64 0, .int .i64 0, .int .i64 0, .int .i64 0, .int .i64 0, .int .i64 0, .int .i64 0, .int .i64 0, .int .i64 0, .int .i64 0, .int .i64 0, .int .i64 0, .int .i64 0, .int .i64 0, .int .i64 0, .int .i64 0, .int .i64 0, .int .i64 0, .int .i64 0, .slice none 0 0, .int .i64 0] 96)) w1.heap.size 96 #[.int .i64 0, .int .i64 0, .int .i64 0, .int .i64 0, .int .i64 0, .int .i64 0, .int .i64 0, .int .i64 0, .int .i64 0, .int .i64 0, .int .i64 0, .int .i64 0, .int .i64 0, .int .i64 0, .int .i64 0, .int .i64 0, .int .i64 0, .int .i64 0, .int .i64 0, .int .i64 0, .slice none 0 0, .int .i64 0] := blk_new _ _ _ _ rfl
    have hi1 : (Tryd.prog.info? 96).map (·.size) = some (rc L (.slice E ne ce) o).size := rc_info hl20
    have hs1z : (#[.int .i64 0, .int .i64 0, .int .i64 0, .int .i64 0, .int .i64 0, .int .i64 0, .int .i64 0, .int .i64 0, .int .i64 0, .int .i64 0, .int .i64 0, .int .i64 0, .int .i64 0, .int .i64 0, .int .i64 0, .int .i64 0, .int .i64 0, .int .i64 0, .int .i64 0, .int .i64 0, .slice none 0 0, .int .i64 0] : Array Value).size = (rc L (.slice E ne ce) o).size := by rw [rc_size hl20]; rfl
    have h11 : (rc L (.slice E ne ce) o).all (·.oneCell') = true := rc_one rfl
    have hbf := bon (bon hb0 hb1) (((Out.of_below (bnew _ _)).trans (out_setRow (by omega)) : Out w1.heap.size (w1.heap.size + 1) w1 ((w1.alloc (.cells #[.int .i64 0, .int .i64 0, .int .i64 0, .int .i64 0, .int .i64 0, .int .i64 0, .int .i64 0, .int .i64 0, .int .i64 0, .int .i64 0, .int .i64 0, .int .i64 0, .int .i64 0, .int .i64 0, .int .i64 0, .int .i64 0, .int .i64 0, .int .i64 0, .int .i64 0, .int .i64 0, .slice none 0 0, .int .i64 0] 96)).setRow w1.heap.size (rc L (.slice E ne ce) o))).below (Nat.le_refl _) (Nat.le_refl _))
    go_wp2_with (first
      | (refine wpList_store_rowTo rfl 96 _ _ rfl rfl w1.heap.size (rc L (.slice E ne ce) o) rfl rfl 96 #[.int .i64 0, .int .i64 0, .int .i64 0, .int .i64 0, .int .i64 0, .int .i64 0, .int .i64 0, .int .i64 0, .int .i64 0, .int .i64 0, .int .i64 0, .int .i64 0, .int .i64 0, .int .i64 0, .int .i64 0, .int .i64 0, .int .i64 0, .int .i64 0, .int .i64 0, .int .i64 0, .slice none 0 0, .int .i64 0] hZ hi1 hs1z h11 ?_)
      | fail)
    go_ret2
    rw [HN.out]
    exact ⟨none, 0, rfl, own_none _ _ _ hbf.size (Nat.le_refl _), hbf⟩
  | true =>
    have HN := Lib.hid (HR.out.symm.trans (cntR_yes hv))
    have HV := Lib.hid hv
    obtain ⟨hcode, hst, hfu, v, hf0, hf1⟩ := runB_parts hv
    have hk8 : k ≤ 80 := by have := (codeB_parts hcode).2.1; omega
    obtain ⟨⟨⟨dv, dz, ds, dp⟩, ks, oo⟩, HRN⟩ : ∃ x, Hid (runN cs f.toNat (c0R vs zs) = x) := ⟨_, rfl⟩
    have hpl := runN_places hcode f.toNat (c0R vs zs) v
    rw [HRN.out] at hpl
    obtain ⟨hkl, hkb⟩ := hpl
    have hkl2 : ks.length ≤ 2000 := by have : ks.length ≤ f.toNat := hkl; omega
    have HKB : Hid (∀ x ∈ ks, 0 ≤ x ∧ x < (cs.length : Int)) := hkb
    clear hv hcode hst hfu v hkb hkl
    go_enter Tryd.func26, Tryd.ntmps26
    go_wp2_with fail
    generalize w.alloc (.cells #[.slice A n c, .slice A' m c'] 46) = W at hb0 hsz HRI p0 p1 ⊢
    refine HRI.out.mono ?_
    rintro e w1 ⟨L, E, ne, ce, o, rfl, hl20, hb1, hyes⟩
    rw [HV.out]
    obtain ⟨-, -, hown⟩ := hyes HV.out
    rw [HRN.out] at hown
    have hnk : ks.length = ne := hown.1
    have hZ : BlkIs (w1.alloc (.cells #[.int .i64 0, .int .i64 0, .int .i64 0, .int .i64 0, .int .i64 0, .int .i64 0, .int .i64 0, .int .i64 0, .int .i64 0, .int .i64 0, .int .i64 0, .int .i64 0, .int .i64 0, .int .i64 0, .int .i64 0, .int .i64 0, .int .i64 0, .int .i64 0, .int .i64 0, .int .i64 0, .slice none 0 0, .int .i64 0] 96)) w1.heap.size 96 #[.int .i64 0, .int .i64 0, .int .i64 0, .int .i64 0, .int .i64 0, .int .i64 0, .int .i64 0, .int .i64 0, .int .i64 0, .int .i64 0, .int .i64 0, .int .i64 0, .int .i64 0, .int .i64 0, .int .i64 0, .int .i64 0, .int .i64 0, .int .i64 0, .int .i64 0, .int .i64 0, .slice none 0 0, .int .i64 0] := blk_new _ _ _ _ rfl
    have hi1 : (Tryd.prog.info? 96).map (·.size) = some (rc L (.slice E ne ce) o).size := rc_info hl20
    have hs1z : (#[.int .i64 0, .int .i64 0, .int .i64 0, .int .i64 0, .int .i64 0, .int .i64 0, .int .i64 0, .int .i64 0, .int .i64 0, .int .i64 0, .int .i64 0, .int .i64 0, .int .i64 0, .int .i64 0, .int .i64 0, .int .i64 0, .int .i64 0, .int .i64 0, .int .i64 0, .int .i64 0, .slice none 0 0, .int .i64 0] : Array Value).size = (rc L (.slice E ne ce) o).size := by rw [rc_size hl20]; rfl
    have h11 : (rc L (.slice E ne ce) o).all (·.oneCell') = true := rc_one rfl
    have hbN : Below w1.heap.size w1 ((w1.alloc (.cells #[.int .i64 0, .int .i64 0, .int .i64 0, .int .i64 0, .int .i64 0, .int .i64 0, .int .i64 0, .int .i64 0, .int .i64 0, .int .i64 0, .int .i64 0, .int .i64 0, .int .i64 0, .int .i64 0, .int .i64 0, .int .i64 0, .int .i64 0, .int .i64 0, .int .i64 0, .int .i64 0, .slice none 0 0, .int .i64 0] 96)).setRow w1.heap.size (rc L (.slice E ne ce) o)) := ((Out.of_below (bnew _ _)).trans (out_setRow (by omega)) : Out w1.heap.size (w1.heap.size + 1) w1 ((w1.alloc (.cells #[.int .i64 0, .int .i64 0, .int .i64 0, .int .i64 0, .int .i64 0, .int .i64 0, .int .i64 0, .int .i64 0, .int .i64 0, .int .i64 0, .int .i64 0, .int .i64 0, .int .i64 0, .int .i64 0, .int .i64 0, .int .i64 0, .int .i64 0, .int .i64 0, .int .i64 0, .int .i64 0, .slice none 0 0, .int .i64 0] 96)).setRow w1.heap.size (rc L (.slice E ne ce) o))).below (Nat.le_refl _) (Nat.le_refl _)
    have hsN : ((w1.alloc (.cells #[.int .i64 0, .int .i64 0, .int .i64 0, .int .i64 0, .int .i64 0, .int .i64 0, .int .i64 0, .int .i64 0, .int .i64 0, .int .i64 0, .int .i64 0, .int .i64 0, .int .i64 0, .int .i64 0, .int .i64 0, .int .i64 0, .int .i64 0, .int .i64 0, .int .i64 0, .int .i64 0, .slice none 0 0, .int .i64 0] 96)).setRow w1.heap.size (rc L (.slice E ne ce) o)).heap.size = w1.heap.size + 1 := by simp
    have hB1 : BlkIs ((w1.alloc (.cells #[.int .i64 0, .int .i64 0, .int .i64 0, .int .i64 0, .int .i64 0, .int .i64 0, .int .i64 0, .int .i64 0, .int .i64 0, .int .i64 0, .int .i64 0, .int .i64 0, .int .i64 0, .int .i64 0, .int .i64 0, .int .i64 0, .int .i64 0, .int .i64 0, .int .i64 0, .int .i64 0, .slice none 0 0, .int .i64 0] 96)).setRow w1.heap.size (rc L (.slice E ne ce) o)) w1.heap.size 96 (rc L (.slice E ne ce) o) := blk_setRow hZ
    have c20 : ((w1.alloc (.cells #[.int .i64 0, .int .i64 0, .int .i64 0, .int .i64 0, .int .i64 0, .int .i64 0, .int .i64 0, .int .i64 0, .int .i64 0, .int .i64 0, .int .i64 0, .int .i64 0, .int .i64 0, .int .i64 0, .int .i64 0, .int .i64 0, .int .i64 0, .int .i64 0, .int .i64 0, .int .i64 0, .slice none 0 0, .int .i64 0] 96)).setRow w1.heap.size (rc L (.slice E ne ce) o)).cell? ⟨w1.heap.size, 20, none⟩ = some (.slice E ne ce) := (hB1.cell 20).trans (rc_exec hl20)
    have hbf := bon (bon hb0 hb1) hbN
    have hOn : OwnL ((w1.alloc (.cells #[.int .i64 0, .int .i64 0, .int .i64 0, .int .i64 0, .int .i64 0, .int .i64 0, .int .i64 0, .int .i64 0, .int .i64 0, .int .i64 0, .int .i64 0, .int .i64 0, .int .i64 0, .int .i64 0, .int .i64 0, .int .i64 0, .int .i64 0, .int .i64 0, .int .i64 0, .int .i64 0, .slice none 0 0, .int .i64 0] 96)).setRow w1.heap.size (rc L (.slice E ne ce) o)) W.heap.size w1.heap.size E ne ce ks := hown.next hbN
    have HON := Lib.hid hOn
    have hs1 := hb1.size
    clear hown hyes hOn hB1
    go_wp2_with (first
      | (refine wpList_store_rowTo rfl 96 _ _ rfl rfl w1.heap.size (rc L (.slice E ne ce) o) rfl rfl 96 #[.int .i64 0, .int .i64 0, .int .i64 0, .int .i64 0, .int .i64 0, .int .i64 0, .int .i64 0, .int .i64 0, .int .i64 0, .int .i64 0, .int .i64 0, .int .i64 0, .int .i64 0, .int .i64 0, .int .i64 0, .int .i64 0, .int .i64 0, .int .i64 0, .int .i64 0, .int .i64 0, .slice none 0 0, .int .i64 0] hZ hi1 hs1z h11 ?_)
      | (at_make; refine wpList_make_full _ rfl _ _ 24 rfl (w1.heap.size + 1) 2 i0 (.int .i64 0) 1 Tryd.underlying24 hif hz0 hz1 .i64 .i64 _ _ k rfl rfl rfl rfl (by rw [hz2]; omega) (by unfold maxLen; omega) (by simp) ?_; intro w2 hown hgrow; have hbG := (Below.refl ((w1.alloc (.cells #[.int .i64 0, .int .i64 0, .int .i64 0, .int .i64 0, .int .i64 0, .int .i64 0, .int .i64 0, .int .i64 0, .int .i64 0, .int .i64 0, .int .i64 0, .int .i64 0, .int .i64 0, .int .i64 0, .int .i64 0, .int .i64 0, .int .i64 0, .int .i64 0, .int .i64 0, .int .i64 0, .slice none 0 0, .int .i64 0] 96)).setRow w1.heap.size (rc L (.slice E ne ce) o)).heap.size ((w1.alloc (.cells #[.int .i64 0, .int .i64 0, .int .i64 0, .int .i64 0, .int .i64 0, .int .i64 0, .int .i64 0, .int .i64 0, .int .i64 0, .int .i64 0, .int .i64 0, .int .i64 0, .int .i64 0, .int .i64 0, .int .i64 0, .int .i64 0, .int .i64 0, .int .i64 0, .int .i64 0, .int .i64 0, .slice none 0 0, .int .i64 0] 96)).setRow w1.heap.size (rc L (.slice E ne ce) o))).grown hgrow (Nat.le_refl _) (fun _ h => by cases h); have c22 := cell_next c20 hbG)
      | fail)
    have hbG : Below ((w1.alloc (.cells #[.int .i64 0, .int .i64 0, .int .i64 0, .int .i64 0, .int .i64 0, .int .i64 0, .int .i64 0, .int .i64 0, .int .i64 0, .int .i64 0, .int .i64 0, .int .i64 0, .int .i64 0, .int .i64 0, .int .i64 0, .int .i64 0, .int .i64 0, .int .i64 0, .int .i64 0, .int .i64 0, .slice none 0 0, .int .i64 0] 96)).setRow w1.heap.size (rc L (.slice E ne ce) o)).heap.size ((w1.alloc (.cells #[.int .i64 0, .int .i64 0, .int .i64 0, .int .i64 0, .int .i64 0, .int .i64 0, .int .i64 0, .int .i64 0, .int .i64 0, .int .i64 0, .int .i64 0, .int .i64 0, .int .i64 0, .int .i64 0, .int .i64 0, .int .i64 0, .int .i64 0, .int .i64 0, .int .i64 0, .int .i64 0, .slice none 0 0, .int .i64 0] 96)).setRow w1.heap.size (rc L (.slice E ne ce) o)) w2 := (Below.refl _ _).grown hgrow (Nat.le_refl _) (fun _ h => by cases h)
    rw [hsN] at hown hbG
    have hrep : Hid (OwnL w2 (w1.heap.size + 1) (w1.heap.size + 2) (some ⟨w1.heap.size + 1, 0, none⟩) k k (countR k (ks.take 0))) := by
      have h1 : OwnL w2 (w1.heap.size + 1) w2.heap.size (some ⟨w1.heap.size + 1, 0, none⟩) k k (List.replicate k 0) := OwnL.of_own (by rw [List.map_replicate]; have e := copy_start k ([] : List Value) (z := .int .i64 0); rw [Nat.mul_one] at e; have h := hown; simp at h; rw [e] at h; simpa [ic] using h)
      exact h1.exact
    clear hown hgrow hZ hi1 hs1z h11 c20 c22 p0 p1 HRI
    go_loopw [12, 28] (fun _ iv wr => ∃ (i : Nat), iv = .int .i64 (i : Int) ∧ i ≤ ne ∧ Hid (OwnL wr (w1.heap.size + 1) (w1.heap.size + 2) (some ⟨w1.heap.size + 1, 0, none⟩) k k (countR k (ks.take i))) ∧ Below (w1.heap.size + 1) ((w1.alloc (.cells #[.int .i64 0, .int .i64 0, .int .i64 0, .int .i64 0, .int .i64 0, .int .i64 0, .int .i64 0, .int .i64 0, .int .i64 0, .int .i64 0, .int .i64 0, .int .i64 0, .int .i64 0, .int .i64 0, .int .i64 0, .int .i64 0, .int .i64 0, .int .i64 0, .int .i64 0, .int .i64 0, .slice none 0 0, .int .i64 0] 96)).setRow w1.heap.size (rc L (.slice E ne ce) o)) wr) (fun _ iv _ => ne - (intOf iv).toNat)
    case atStart => exact ⟨0, rfl, Nat.zero_le _, hrep, hbG⟩
    case round =>
      clear hrep hbG
      obtain ⟨i, rfl, hile, HCO, hbl⟩ := hrel
      have hbl' : Below ((w1.alloc (.cells #[.int .i64 0, .int .i64 0, .int .i64 0, .int .i64 0, .int .i64 0, .int .i64 0, .int .i64 0, .int .i64 0, .int .i64 0, .int .i64 0, .int .i64 0, .int .i64 0, .int .i64 0, .int .i64 0, .int .i64 0, .int .i64 0, .int .i64 0, .int .i64 0, .int .i64 0, .int .i64 0, .slice none 0 0, .int .i64 0] 96)).setRow w1.heap.size (rc L (.slice E ne ce) o)).heap.size ((w1.alloc (.cells #[.int .i64 0, .int .i64 0, .int .i64 0, .int .i64 0, .int .i64 0, .int .i64 0, .int .i64 0, .int .i64 0, .int .i64 0, .int .i64 0, .int .i64 0, .int .i64 0, .int .i64 0, .int .i64 0, .int .i64 0, .int .i64 0, .int .i64 0, .int .i64 0, .int .i64 0, .int .i64 0, .slice none 0 0, .int .i64 0] 96)).setRow w1.heap.size (rc L (.slice E ne ce) o)) wr := by rw [hsN]; exact hbl
      have hEw := HON.out.next hbl'
      have hsl := hbl.size
      have u5 := HCO.out
      have hu5 := u5.2.2.2
      by_cases hie : i = ne
      · have eqT : decide (i < ne) = false := by simp; omega
        have hbe := hbf.trans (hbl.mono (by omega))
        have HF : Hid (OwnL wr w.heap.size wr.heap.size (some ⟨w1.heap.size + 1, 0, none⟩) k k (countR k ks)) := by
          have h := (u5.less (lo' := w.heap.size) (by omega)).wide (hi' := wr.heap.size) (by omega) (Nat.le_refl _)
          rw [List.take_of_length_le (by omega)] at h
          exact h
        have hlen : (countR cs.length ks).length = k := by rw [countR_len, hkk]
        clear u5 hEw HCO hie
        go_wp2_with fail
        refine bodyPost_ret (v := .tuple #[.slice (some ⟨w1.heap.size + 1, 0, none⟩) k k, .bool true]) (by simp [results, Tryd.results26, go_sem]) rfl ?_
        rw [HN.out, HRN.out]
        exact ⟨some ⟨w1.heap.size + 1, 0, none⟩, k, by show Ending.returned _ = Ending.returned (.tuple #[.slice _ (countR cs.length ks).length k, .bool true]); rw [hlen], by show OwnL _ _ _ _ (countR cs.length ks).length k (countR cs.length ks); rw [hlen, hkk]; exact HF.out, hbe⟩
      · have eqT : decide (i < ne) = true := by simp; omega
        have hlt : i < ne := by omega
        have hlt1 : (i : Int) < (ne : Int) := by omega
        obtain ⟨b, rfl, hcb, hfb⟩ := hEw.at0 (by omega)
        have ci := hcb i hlt
        have hks : ks[i]? = some (ks.getD i 0) := some_getD (by omega)
        have hqb := HKB.out (ks.getD i 0) (mem_getD (by omega))
        obtain ⟨q, hq⟩ : ∃ q : Nat, ks.getD i 0 = (q : Int) := ⟨(ks.getD i 0).toNat, by omega⟩
        rw [hq] at ci hks hqb
        have hqk : q < k := by omega
        have hqk1 : (q : Int) < (k : Int) := by omega
        have hqk0 : (0 : Int) ≤ (q : Int) := by omega
        have hklc : (countR k (ks.take i)).length = k := countR_len _ _
        have hcx : 0 ≤ (countR k (ks.take i)).getD q 0 ∧ (countR k (ks.take i)).getD q 0 ≤ (ks.take i).length := countR_bound _ (mem_getD (by omega))
        obtain ⟨xq, hxq⟩ : ∃ x, Hid ((countR k (ks.take i)).getD q 0 = x) := ⟨_, rfl⟩
        rw [hxq.out, List.length_take] at hcx
        have wrx : IntKind.i64.wrap (xq + 1) = xq + 1 := IntWalk.i64_in _ (by omega)
        have wri : IntKind.i64.wrap ((i : Int) + 1) = (i : Int) + 1 := IntWalk.i64_in _ (by omega)
        have hcnt : (countR k (ks.take i)).set q (xq + 1) = countR k (ks.take (i + 1)) := by rw [List.take_add_one, hks]; show _ = countR k (ks.take i ++ [(q : Int)]); rw [countR_snoc, ← hxq.out]; unfold bump; simp
        have cq : wr.cell? ⟨w1.heap.size + 1, q, none⟩ = some (.int .i64 xq) := by
          have := u5.2.1.cellAt q (by omega)
          rw [List.getElem?_map, some_getD (by omega), hxq.out] at this
          exact this
        have fq := u5.2.1.frozenAt q
        have t5 := u5.set hqk (xq + 1)
        rw [hcnt] at t5
        have HT5 := Lib.hid t5
        have hoq : Out (w1.heap.size + 1) (w1.heap.size + 2) wr (wr.setCell ⟨w1.heap.size + 1, q, none⟩ (.int .i64 (xq + 1))) := out_set (Out.refl _ _ _) (by omega)
        have hbE := hbl.trans (hoq.below (Nat.le_refl _) (by omega))
        clear u5 t5 hEw HCO hie hcb hfb hoq hcnt hks
        go_wp2_with fail
        go_roundw
        case rel => exact ⟨i + 1, by go_num, by omega, HT5, hbE⟩
        case measure => simp [intOf]; omega
end Go.Proofs.YtffkdidgfeknkaaDoor
