/-
  ReachableCode: the model's and the program's list. Conditions: at most 2^20 instructions.
-/
import Derived.Test.YtffkdidgfeknkaaDoorBunD
import Derived.Test.YtffkdidgfeknkaaDoorBunC
import Derived.LaidLaws
import Derived.LaidHandle
namespace Go.Proofs.YtffkdidgfeknkaaDoor
set_option linter.unusedVariables false
open Go.RowKit

/-- A card whose variables a walk does not look at. -/
def NoFact (_ : World) : Prop := True
theorem noFact_of {laid : List (String × DataW Unit)} {W : World} (_ : True) (_ : laidMetH Tryd.prog laid W) : NoFact W := trivial
theorem infoIR : (Tryd.prog.info? 2).map (fun i => (i.zero, i.size, i.bytes)) = some (some (.int .i64 0), 1, 8) := by kernel_rfl
/-- What ReachableCode answers, marks being what is reached. -/
def rchR (xs : List (Int × Int)) (ms : List Bool) : List Int × Bool := if codeB xs = true then (lstM ms xs.length, true) else ([], false)
theorem rchR_len (xs : List (Int × Int)) (ms : List Bool) : (rchR xs ms).1.length ≤ 80 := by
  unfold rchR
  split
  · rename_i h
    have := lstM_len ms xs.length
    have := (codeB_parts h).2.1
    show (lstM ms xs.length).length ≤ 80
    omega
  · simp

set_option maxRecDepth 100000 in
set_option maxHeartbeats 2000000 in
theorem implReach_c (A : Option Addr) (n c B : Nat) (xs : List (Int × Int)) (ms : List Bool) (w : World) (h : InC w B A n xs) (hB : B ≤ w.heap.size) (hn : n ≤ 1048576) (hms : MarksOf xs (fun t => t = 0) ms) :
    Calls Tryd.prog 24 #[.slice A n c] w fun e w' => ∃ A' c', e = .returned (.tuple #[.slice A' (rchR xs ms).1.length c', .bool (rchR xs ms).2]) ∧ OwnL w' w.heap.size w'.heap.size A' (rchR xs ms).1.length c' (rchR xs ms).1 ∧ Below w.heap.size w w' := by
  obtain ⟨i0, hi, hz0, hz1, hz2⟩ := info_parts infoIR
  have hlen := Lib.hid h.1
  have HC0 := implCode_c A n c B xs w h hB hn
  cases hv : codeB xs with
  | false =>
    have HE : Hid (rchR xs ms = ([], false)) := by show rchR xs ms = _; unfold rchR; rw [hv]; rfl
    rw [hv] at HC0
    rw [HE.out]
    have HC := Lib.hid HC0
    clear HC0 hv h
    go_enter Tryd.func24, Tryd.ntmps24
    go_wp2_with fail
    refine HC.out.mono ?_
    rintro e w1 ⟨rfl, hb1⟩
    go_wp2_with fail
    go_ret2
    exact ⟨none, 0, rfl, (ownL_nil _).less hb1.size, hb1⟩
  | true =>
    have hp := codeB_parts hv
    have hn80 : n ≤ 80 ∧ 1 ≤ n := by have := hlen.out; omega
    have HE : Hid (rchR xs ms = (lstM ms n, true)) := by show rchR xs ms = _; unfold rchR; rw [hv, hlen.out]; rfl
    have HML : Hid (ms.length = n) := by show ms.length = n; rw [hms.1]; exact hlen.out
    rw [hv] at HC0
    rw [HE.out]
    have HC := Lib.hid HC0
    have HI := Lib.hid h
    have HV := Lib.hid hv
    have HMS := Lib.hid hms
    have HX80 : Hid (xs.length ≤ 80) := hp.2.1
    clear HC0 hv hp h hms
    go_enter Tryd.func24, Tryd.ntmps24
    go_wp2_with fail
    refine HC.out.mono ?_
    rintro e w1 ⟨rfl, hb1⟩
    go_wp2_with fail
    refine (spread_c A n c B xs w1 (HI.out.next hb1 hB) (Nat.le_trans hB hb1.size) HV.out (Emp xs) (emp_on HX80.out (tgt_in HV.out)) (Emp.init xs)).mono ?_
    rintro e w2 ⟨K, rfl, hK, hb2⟩
    have hEM : ms = marksH xs.length K := HMS.out.uniq (marksH_of HX80.out (tgt_in HV.out) hK)
    have hKl := hK.len
    have hmk : ∀ k : Nat, k < n → ms[k]? = some (K.getD k 0 != -1) := fun k hk => by
      rw [hEM]
      unfold marksH
      rw [List.getElem?_map, List.getElem?_range (by rw [hlen.out]; exact hk)]
      rfl
    have HMK := Lib.hid hmk
    clear hmk hK hEM
    have hZ : ArrIs (w2.alloc (.cells Tryd.zeroCells79 79)) w2.heap.size (List.replicate 81 0) := by rw [zero42]; exact ArrIs.new w2 (by simp)
    have hb3 := bnew w2 (.cells Tryd.zeroCells79 79)
    have hR3 := hZ.store hKl
    have hg3 := grown_setCells w2.heap.size (K.map ic) 0 (w2.alloc (.cells Tryd.zeroCells79 79))
    have hb4 : Below w2.heap.size w2 ((w2.alloc (.cells Tryd.zeroCells79 79)).setCells w2.heap.size 0 (K.map ic)) := hb3.grown hg3 hb3.size (fun k hk => by have := Option.some.inj hk; omega)
    go_upto_region 6 with (refine store_hc rfl _ _ rfl w2.heap.size rfl rfl hZ hKl ?_)
    generalize (w2.alloc (.cells Tryd.zeroCells79 79)).setCells w2.heap.size 0 (K.map ic) = W at hR3 hb4 ⊢
    clear hZ hb3 hg3
    have hO0 : W.ownsRow w2.heap.size 2 1 (.slice none 0 0) (lstM ms 0).length ((lstM ms 0).map ic) := World.ownsRow_nil _ _ _ _
    have hlt0 := hR3.lt
    go_loopw [5, 14] (fun v i wr => ∃ k : Nat, k ≤ n ∧ i = .int .i64 k ∧ wr.ownsRow W.heap.size 2 1 v (lstM ms k).length ((lstM ms k).map ic) ∧ Below W.heap.size W wr) (fun _ i _ => n - (intOf i).toNat)
    case atStart => exact ⟨0, Nat.zero_le _, rfl, World.ownsRow_nil _ _ _ _, Below.refl _ _⟩
    case round =>
      clear hO0
      obtain ⟨k, hk, rfl, hown, hbel⟩ := hrel
      have hsz := hbel.size
      obtain ⟨VA, Vc, rfl, _⟩ := own_slice hown
      by_cases hlt : k < n
      · have hkn : (k : Int) < (n : Int) := by omega
        have hk81 : (k : Int) < 81 := by omega
        have hbk := HMK.out k hlt
        have c1 := (hR3.next hbel).at_ (i := k) (by omega)
        obtain ⟨hk0, ehk⟩ : ∃ hk0, Hid (K.getD k 0 = hk0) := ⟨_, Lib.hid rfl⟩
        rw [ehk.out] at c1 hbk
        have hlk := lstM_len ms k
        by_cases e : hk0 = -1
        · subst e
          have hS := lstM_no hbk
          have HS := Lib.hid hS
          clear hbk hS
          generalize lstM ms k = O at hown HS hlk ⊢
          go_wp2_with fail
          go_roundw
          case rel => exact ⟨k + 1, by omega, by go_num, by rw [HS.out]; exact hown, hbel⟩
          case measure => simp [intOf]; omega
        · have e' : (hk0 == -1) = false := by simp; exact e
          have hS := lstM_yes (ms := ms) (k := k) (by rw [hbk]; simp; exact e)
          have HS := Lib.hid hS
          clear hbk hS
          generalize lstM ms k = O at hown HS hlk ⊢
          go_wp2_with (at_builtin; refine wpList_append_own _ rfl _ _ 24 rfl W.heap.size 2 i0 (.int .i64 0) 1 8 Tryd.underlying24 hi hz0 hz1 hz2 rfl (by decide) _ _ _ rfl ((hown : World.ownsRow _ _ _ _ _ _ _).alloc _) ⟨wr.heap.size, 0, none⟩ 1 1 [.int .i64 (k : Int)] rfl rfl (cell_one_new _ _ _) (by simp [Value.oneCell']) (by unfold maxLen; omega) (by omega) (by simp; omega) ?_; intro v1 w4 hown4 hgrow4 _)
          have hb5 : Below W.heap.size W w4 := (bon hbel (bnew _ _)).grown hgrow4 (by simp; omega) (fun j hj => ((own_below hown (bnew wr (.cells #[.int .i64 (k : Int)] 2))).lt j hj).1)
          go_roundw
          case rel =>
            refine ⟨k + 1, by omega, by go_num, ?_, hb5⟩
            rw [HS.out, List.length_append, List.map_append]
            exact hown4
          case measure => simp [intOf]; omega
      · obtain rfl : k = n := by omega
        have hb := bon (bon hb1 hb2) (bon hb4 hbel)
        have hO := (OwnL.of_own (zs := lstM ms k) hown).less (Nat.le_trans hb1.size (Nat.le_trans hb2.size hb4.size))
        go_wp2_with fail
        go_ret2
        exact ⟨_, _, rfl, hO, hb⟩
end Go.Proofs.YtffkdidgfeknkaaDoor
