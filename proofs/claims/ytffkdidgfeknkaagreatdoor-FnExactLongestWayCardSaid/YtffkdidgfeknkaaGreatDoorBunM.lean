/-
  Several texts in one: HgtM, HgtS, Att, HgtI. Conditions: as each says.
-/
import Derived.Test.YtffkdidgfeknkaaGreatDoorBunB
import Derived.Test.YtffkdidgfeknkaaGreatDoorBunD
import Derived.Test.YtffkdidgfeknkaaGreatDoorTarg
import Derived.Test.YtffkdidgfeknkaaGreatDoorReachM
import Derived.Test.YtffkdidgfeknkaaGreatDoorBunA
import Derived.Test.YtffkdidgfeknkaaGreatDoorSep
import Derived.Deep.QuietTactic
import Derived.BigQuiet
import Derived.Deep.AppendLies
import Derived.Test.YtffkdidgfeknkaaGreatDoorBlk
import Derived.Test.YtffkdidgfeknkaaGreatDoorOwn
import Derived.Tactics
import Derived.Tactics2
import Derived.Defers
import Derived.Recover
import Derived.Laws.Pointers

/-! Heights over code: the model's search. Conditions: valid code. -/
namespace Go.Proofs.YtffkdidgfeknkaaGreatDoor
set_option linter.unusedVariables false
open Go.RowKit

theorem popB_bound (op : Int) : 0 ≤ popB op ∧ popB op ≤ 2 := by unfold popB; split <;> (try split) <;> omega
theorem pushB_bound (op : Int) : 0 ≤ pushB op ∧ pushB op ≤ 1 := by unfold pushB; split <;> omega

/-- The negative numbers of a row, as memory tells. -/
def negW (w : World) (g n : Nat) : Nat := match w.heap[g]? with
  | some (.cells cs _ _) => ((cs.toList.take n).filter fun u => match u with | .int _ x => decide (x < 0) | _ => false).length
  | _ => 0
theorem negW_is {W : World} {lo g n c : Nat} {zs : List Int} (h : W.ownsRow lo 2 1 (.slice (some ⟨g, 0, none⟩) n c) n (zs.map ic)) : negW W g n = negN zs := by
  rcases h.2 with ⟨h', _⟩ | ⟨g', c', cur, h', hb, hg, hnc, hcm, hcs, htake⟩
  · simp at h'
  · simp only [Value.slice.injEq, Option.some.injEq, Addr.mk.injEq, and_true, true_and] at h'
    obtain ⟨rfl, rfl⟩ := h'
    rw [Nat.mul_one] at htake
    unfold negW negN
    rw [hg]
    show ((cur.toList.take n).filter _).length = _
    rw [htake, List.filter_map, List.length_map]
    rfl
/-- The search in memory: the queue and the heights. -/
structure HgtW (wc : World) (gO cO n : Nat) (out q : List Int) (v : Value) (W : World) : Prop where
  que : Que W wc.heap.size v q
  outs : W.ownsRow wc.heap.size 2 1 (.slice (some ⟨gO, 0, none⟩) n cO) n (out.map ic)
  apart : v.ownBlock ≠ some gO
  size : 2 * negN out + q.length ≤ 400
  top : ∀ z ∈ out, z ≤ 6
  below : Below wc.heap.size wc W
section
variable {wc W W' W1 W2 : World} {gO cO n k : Nat} {out q ys : List Int} {v v' v0 : Value} {t z a : Int}
theorem HgtW.keep (h : HgtW wc gO cO n out q v W) (hb : Below W.heap.size W W') : HgtW wc gO cO n out q v W' :=
  ⟨h.que.next hb, own_below h.outs hb, h.apart, h.size, h.top, bon h.below hb⟩
theorem HgtW.pop (h : HgtW wc gO cO n out (t :: q) v W) (hq : Que W wc.heap.size v0 q) (h0 : v0.ownBlock = v.ownBlock) : HgtW wc gO cO n out q v0 W :=
  ⟨hq, h.outs, by rw [h0]; exact h.apart, by have := h.size; rw [List.length_cons] at this; omega, h.top, h.below⟩
/-- A height is put, and its place appended. -/
theorem HgtW.put (h : HgtW wc gO cO n out q v W) (hk : out[k]? = some a) (ha : a < 0) (hz : 0 ≤ z) (hz6 : z ≤ 6) (hb : Below (W.setCell ⟨gO, k, none⟩ (.int .i64 z)).heap.size (W.setCell ⟨gO, k, none⟩ (.int .i64 z)) W1)
    (hq : Que W2 wc.heap.size v' (q ++ [t])) (hg : W1.grownBy W2 v.ownBlock) (hv : v'.ownBlock = v.ownBlock ∨ ∃ j, v'.ownBlock = some j ∧ W1.heap.size ≤ j) : HgtW wc gO cO n (out.set k z) (q ++ [t]) v' W2 := by
  have hm := h.outs
  have s1 := (hm.stored k (.int .i64 z)).1
  have s2 := own_below s1 hb
  have s3 := s2.kept hg (.inr (fun e => h.apart (by rw [← e]; rfl)))
  have hgs := hm.lt gO rfl
  refine ⟨hq, ?_, ?_, ?_, fun y hy => by rcases List.mem_or_eq_of_mem_set hy with e | rfl; exact h.top y e; exact hz6, ?_⟩
  · rw [List.map_set]; exact s3
  · rcases hv with e | ⟨j, e, hj⟩
    · rw [e]; exact h.apart
    · rw [e]; intro e'
      obtain rfl := Option.some.inj e'
      have h1 := hgs.2
      have h2 := hb.size
      simp at h2
      omega
  · have h1 := negN_set hk ha hz
    have h2 := h.size
    rw [List.length_append, List.length_singleton]
    omega
  · have b1 : Below wc.heap.size wc (W.setCell ⟨gO, k, none⟩ (.int .i64 z)) := h.below.setCell (p := ⟨gO, k, none⟩) hgs.1 _
    refine (bon b1 hb).grown hg (Nat.le_trans b1.size hb.size) (fun j hj => ?_)
    obtain ⟨b, e, h1, _⟩ := h.que.lt
    rw [e] at hj
    rw [← Option.some.inj hj]; exact h1
end

end Go.Proofs.YtffkdidgfeknkaaGreatDoor

/-! The model's StackHeights. Conditions: at most 2^20 instructions. -/
namespace Go.Proofs.YtffkdidgfeknkaaGreatDoor
set_option linter.unusedVariables false
open Go.RowKit

theorem hgtR_cases {xs : List (Int × Int)} {out : List Int} {ok : Bool} (hc : codeB xs = true) (h1 : ok = true → LeastH xs out) (h2 : ok = false → ∀ K, ¬ GoodH xs K) : hgtR xs = if ok = true then (out, true) else ([], false) := by
  cases ok with
  | true => rw [if_pos rfl]; exact hgtR_yes hc (h1 rfl)
  | false => rw [if_neg (by simp)]; exact hgtR_no (h2 rfl)

end Go.Proofs.YtffkdidgfeknkaaGreatDoor

/-! attempt at []int64: what StackHeights$1 returns, or false where it panics. No conditions. -/
namespace Go.Proofs.YtffkdidgfeknkaaGreatDoor
set_option linter.unusedVariables false
open Go.RowKit

theorem catch_stuck (p : Addr) (x : Bool) (u : TypeId) (pv : Value) (older : List PanicEntry) (w : World) (hc : w.cell? p = some (.bool x)) (hz : w.frozen? p = false) :
    CallsD Tryz.prog 86 #[.pointer (some p)] (.panicking ({ v := .iface u pv, recovered := false } :: older)) w fun e u' w' =>
      e = .returned (.tuple #[]) ∧ u' = .panicking ({ v := .iface u pv, recovered := true } :: older) ∧ w' = w.setCell p (.bool false) := by
  refine callsD_of_wpS Tryz.func86 rfl fun c₀ cs hu => ?_
  apply wpS_region
  simp [wpOpsS, go_sem, recoverD, hu, Tryz.ntmps86, hc, hz, bodyPostS, results, Tryz.results86]
theorem catch_none (p : Addr) (x : Bool) (w : World) (hc : w.cell? p = some (.bool x)) (hz : w.frozen? p = false) :
    CallsD Tryz.prog 86 #[.pointer (some p)] .returning w fun e u' w' => e = .returned (.tuple #[]) ∧ u' = .returning ∧ w' = w.setCell p (.bool true) := by
  refine callsD_of_wpS Tryz.func86 rfl fun c₀ cs hu => ?_
  apply wpS_region
  simp [wpOpsS, go_sem, recoverD, hu, Tryz.ntmps86, hc, hz, bodyPostS, results, Tryz.results86]
  cases c₀
  simp_all

set_option maxRecDepth 100000 in
set_option maxHeartbeats 4000000 in
theorem attempt_no (q : Addr) (tp : TypeId) (pv : Value) (N : Prop) (w : World) (h : Calls Tryz.prog 59 #[.pointer (some q)] (w.alloc (.cells #[.bool false] 4)) fun e w' => e = .panicked [{ v := .iface tp pv, recovered := false }] ∧ N ∧ Below (w.heap.size + 1) (w.alloc (.cells #[.bool false] 4)) w') :
    Calls Tryz.prog 58 #[.func (.func 59) #[] #[.pointer (some q)]] w fun e w' => e = .returned (.tuple #[.slice none 0 0, .bool false]) ∧ N ∧ Below w.heap.size w w' := by
  have hmf : ∀ (fn : Fn) (first cap : Array Value) (w : World), (Instr.makeFunc fn first cap).run Tryz.prog w = .ok (.func fn first cap) w := fun _ _ _ _ => rfl
  have HH := Lib.hid h
  clear h
  go_enter_defers Tryz.func58, Tryz.ntmps58
  go_wp2_with (go_at_call 59; refine HH.out.mono ?_; rintro e w1 ⟨rfl, hN, hb⟩)
  have hK : BlkIs w1 w.heap.size 4 #[.bool false] := (hb.block w.heap.size (Nat.lt_succ_self _)).trans (heap_alloc_new w _)
  have hc : w1.cell? ⟨w.heap.size, 0, none⟩ = some (.bool false) := hK.cell 0
  have hz := hK.frozen 0
  have hK2 := hK.set 0 (.bool false)
  have HN := Lib.hid hN
  refine leaves_cons (f := 86) (args := #[.pointer (some ⟨w.heap.size, 0, none⟩)]) (by simp) (by simp [go_sem]) ?_
  refine (catch_stuck ⟨w.heap.size, 0, none⟩ false tp pv [] w1 hc hz).mono ?_
  rintro e u' w'' ⟨rfl, rfl, rfl⟩
  have hbb : Below w.heap.size w (w1.setCell ⟨w.heap.size, 0, none⟩ (.bool false)) := ((bnew w (.cells #[.bool false] 4)).trans (hb.mono (Nat.le_succ _))).setCell (p := ⟨w.heap.size, 0, none⟩) (Nat.le_refl _) _
  have hc2 : (w1.setCell ⟨w.heap.size, 0, none⟩ (.bool false)).cell? ⟨w.heap.size, 0, none⟩ = some (.bool false) := hK2.cell 0
  have HB := Lib.hid hbb
  clear hbb hc hz hb hN hK hK2
  simp [Leaves, settle, results, Tryz.results58, go_sem, hc2]
  exact ⟨HN.out, HB.out⟩

set_option maxRecDepth 100000 in
set_option maxHeartbeats 4000000 in
theorem attempt_yes (q : Addr) (R : Value → World → Prop) (w : World) (h : Calls Tryz.prog 59 #[.pointer (some q)] (w.alloc (.cells #[.bool false] 4)) fun e w' => ∃ v, e = .returned v ∧ R v w' ∧ Below (w.heap.size + 1) (w.alloc (.cells #[.bool false] 4)) w') :
    Calls Tryz.prog 58 #[.func (.func 59) #[] #[.pointer (some q)]] w fun e w' => ∃ v w0, e = .returned (.tuple #[v, .bool true]) ∧ R v w0 ∧ Below (w.heap.size + 1) (w.alloc (.cells #[.bool false] 4)) w0 ∧ w' = (w0.setCell ⟨w.heap.size, 0, none⟩ (.bool true)).setCell ⟨w.heap.size, 0, none⟩ (.bool true) := by
  have hmf : ∀ (fn : Fn) (first cap : Array Value) (w : World), (Instr.makeFunc fn first cap).run Tryz.prog w = .ok (.func fn first cap) w := fun _ _ _ _ => rfl
  have HH := Lib.hid h
  clear h
  go_enter_defers Tryz.func58, Tryz.ntmps58
  go_wp2_with (go_at_call 59; refine HH.out.mono ?_; (rintro e w1 ⟨v, rfl, hr, hb⟩); (have hK : BlkIs w1 w.heap.size 4 #[.bool false] := (hb.block w.heap.size (Nat.lt_succ_self _)).trans (heap_alloc_new w _)); (have hc : w1.cell? ⟨w.heap.size, 0, none⟩ = some (.bool false) := hK.cell 0); (have hz := hK.frozen 0); (have HR := Lib.hid hr); (have HB := Lib.hid hb); clear hr hb)
  have hz2 : (w1.setCell ⟨w.heap.size, 0, none⟩ (.bool true)).frozen? ⟨w.heap.size, 0, none⟩ = false := (hK.set 0 (.bool true)).frozen 0
  have hc1 : (w1.setCell ⟨w.heap.size, 0, none⟩ (.bool true)).cell? ⟨w.heap.size, 0, none⟩ = some (.bool true) := (hK.set 0 (.bool true)).cell 0
  have hc2 : ((w1.setCell ⟨w.heap.size, 0, none⟩ (.bool true)).setCell ⟨w.heap.size, 0, none⟩ (.bool true)).cell? ⟨w.heap.size, 0, none⟩ = some (.bool true) := ((hK.set 0 (.bool true)).set 0 (.bool true)).cell 0
  refine leaves_cons (f := 86) (args := #[.pointer (some ⟨w.heap.size, 0, none⟩)]) (by simp) (by simp [go_sem]) ?_
  refine (catch_none ⟨w.heap.size, 0, none⟩ true _ hc1 hz2).mono ?_
  rintro e u' w'' ⟨rfl, rfl, rfl⟩
  clear hc hz hz2 hc1 hK
  simp [Leaves, settle, results, Tryz.results58, go_sem, hc2]
  exact ⟨w1, HR.out, HB.out, rfl⟩
end Go.Proofs.YtffkdidgfeknkaaGreatDoor

/-! The program's StackHeights. Conditions: at most 2^20 instructions; the program's own error lies in its variable. -/
namespace Go.Proofs.YtffkdidgfeknkaaGreatDoor
set_option linter.unusedVariables false
open Go.RowKit

set_option maxRecDepth 100000 in
set_option maxHeartbeats 4000000 in
theorem implHgt_c (tp : TypeId) (pv : Value) (A : Option Addr) (n c B : Nat) (xs : List (Int × Int)) (w : World) (h : InC w B A n xs) (hB : B ≤ w.heap.size) (hn : n ≤ 1048576) (hs : Stuck tp pv w) :
    Calls Tryz.prog 27 #[.slice A n c] w fun e w' => ∃ A' c', e = .returned (.tuple #[.slice A' (hgtR xs).1.length c', .bool (hgtR xs).2]) ∧ OwnL w' w.heap.size w'.heap.size A' (hgtR xs).1.length c' (hgtR xs).1 ∧ Below w.heap.size w w' := by
  have hmf : ∀ (fn : Fn) (first cap : Array Value) (w : World), (Instr.makeFunc fn first cap).run Tryz.prog w = .ok (.func fn first cap) w := fun _ _ _ _ => rfl
  have hb0 := bnew w (.cells #[.slice A n c] 32)
  have hX : BlkIs (w.alloc (.cells #[.slice A n c] 32)) w.heap.size 32 #[.slice A n c] := blk_new _ _ _ _ rfl
  have HC0 := implCode_c A n c B xs (w.alloc (.cells #[.slice A n c] 32)) (h.next hb0 hB) (Nat.le_trans hB hb0.size) hn
  have hlen : xs.length = n := h.1
  have HLN := Lib.hid hlen
  have HI := Lib.hid h
  obtain ⟨R, HR⟩ : ∃ R, Hid (hgtR xs = R) := ⟨_, rfl⟩
  rw [HR.out]
  cases hv : codeB xs with
  | false =>
    have HE : Hid (R = ([], false)) := by show R = _; rw [← HR.out]; exact hgtR_bad hv
    rw [hv] at HC0
    have HC := Lib.hid HC0
    clear HC0 hv h hlen
    go_enter Tryz.func27, Tryz.ntmps27
    go_wp2_with fail
    refine HC.out.mono ?_
    rintro e w1 ⟨rfl, hb1⟩
    go_wp2_with fail
    go_ret2
    rw [HE.out]
    exact ⟨none, 0, rfl, (ownL_nil _).less (bon hb0 hb1).size, bon hb0 hb1⟩
  | true =>
    have HV := Lib.hid hv
    rw [hv] at HC0
    have HC := Lib.hid HC0
    have HS := Lib.hid hs
    clear HC0 hv h hs hlen
    go_enter Tryz.func27, Tryz.ntmps27
    go_wp2_with fail
    generalize w.alloc (.cells #[.slice A n c] 32) = W0 at hb0 hX HC ⊢
    refine HC.out.mono ?_
    rintro e w1 ⟨rfl, hb1⟩
    have hX1 := hX.next hb1
    have hb01 := bon hb0 hb1
    have hb2 := bnew w1 (.cells #[.bool false] 4)
    have hX2 := hX1.next hb2
    have hz2 : (w1.alloc (.cells #[.bool false] 4)).heap.size = w1.heap.size + 1 := by simp
    have hrun := heights1_c w.heap.size A n c B xs tp pv (w1.alloc (.cells #[.bool false] 4)) (HI.out.next (bon hb01 hb2) hB) (Nat.le_trans hB (bon hb01 hb2).size) HV.out (hX2.cell 0) hX2.lt (HS.out.next (bon hb01 hb2))
    rw [hz2] at hrun
    by_cases hG : ∃ G, GoodH xs G
    · have hat := attempt_yes ⟨w.heap.size, 0, none⟩ (fun v w' => ∃ L A' c', v = .slice A' n c' ∧ LeastH xs L ∧ OwnL w' (w1.heap.size + 1) w'.heap.size A' n c' L) w1 (hrun.mono (by
        rintro e w' (⟨L, A', c', rfl, h1, h2, h3⟩ | ⟨rfl, h1, h2⟩)
        · exact ⟨_, rfl, ⟨L, A', c', rfl, h1, h2⟩, h3⟩
        · obtain ⟨G, hg⟩ := hG; exact absurd hg (h1 G)))
      have HAT := Lib.hid hat
      clear hat hrun hX1 hX2 hb2
      go_wp2_with fail
      refine HAT.out.mono ?_
      rintro e w3 ⟨v, w0, rfl, ⟨L, A', c', rfl, hL, ho⟩, hb3, rfl⟩
      have HE : Hid (R = (L, true)) := by show R = _; rw [← HR.out]; exact hgtR_yes HV.out hL
      have hll : L.length = n := hL.good.len.trans HLN.out
      have ho2 := ownsRow_setCell_below (a := ⟨w1.heap.size, 0, none⟩) (ownsRow_setCell_below (a := ⟨w1.heap.size, 0, none⟩) ho.2.1 (Nat.lt_succ_self _) (.bool true)) (Nat.lt_succ_self _) (.bool true)
      have HO := Lib.hid (OwnL.of_own ho2)
      have hbz : Below w.heap.size w ((w0.setCell ⟨w1.heap.size, 0, none⟩ (.bool true)).setCell ⟨w1.heap.size, 0, none⟩ (.bool true)) := ((bon hb01 (bnew w1 (.cells #[.bool false] 4))).trans (hb3.mono (Nat.le_succ_of_le hb01.size))).trans (((Below.refl _ _).setCell (p := ⟨w1.heap.size, 0, none⟩) hb01.size _).setCell (p := ⟨w1.heap.size, 0, none⟩) hb01.size _)
      have HBZ := Lib.hid hbz
      have HLL := Lib.hid hll
      clear hL ho hb3 ho2 hbz hll
      go_wp2_with fail
      go_ret2
      rw [HE.out]
      refine ⟨A', c', congrArg (fun m => Ending.returned (.tuple #[.slice A' m c', .bool true])) HLL.out.symm, ?_, HBZ.out⟩
      rw [HLL.out]
      exact HO.out.less (Nat.le_succ_of_le hb01.size)
    · have hat := attempt_no ⟨w.heap.size, 0, none⟩ tp pv (∀ G, ¬ GoodH xs G) w1 (hrun.mono (by
        rintro e w' (⟨L, A', c', rfl, h1, h2, h3⟩ | ⟨rfl, h1, h2⟩)
        · exact absurd ⟨L, h1.good⟩ hG
        · exact ⟨rfl, h1, h2⟩))
      have HAT := Lib.hid hat
      clear hat hrun hX1 hX2 hb2
      go_wp2_with fail
      refine HAT.out.mono ?_
      rintro e w3 ⟨rfl, hN, hb3⟩
      have HE : Hid (R = ([], false)) := by show R = _; rw [← HR.out]; exact hgtR_no hN
      have HB := Lib.hid (bon hb01 hb3)
      clear hN hb3
      go_wp2_with fail
      go_ret2
      rw [HE.out]
      exact ⟨none, 0, rfl, (ownL_nil _).less HB.out.size, HB.out⟩
end Go.Proofs.YtffkdidgfeknkaaGreatDoor
