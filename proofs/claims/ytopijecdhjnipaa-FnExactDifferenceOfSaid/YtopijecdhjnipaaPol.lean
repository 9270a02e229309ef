/-
  Policies: what one that came in reads as; how the law counts, copies, compares and marks them. Conditions: at most 2^20 rows and numbers.
-/
import Derived.Test.YtopijecdhjnipaaLLM
namespace Go.Proofs.Ytopijecdhjnipaa
set_option linter.unusedVariables false
open Go.RowKit Go.ChangeShapes Go.WideShapes Go.Deep Go.Joins

section
variable {H : Type} {enc : TypeId × Value → H} {w : World} {held : Bool}
theorem cellsPolicy : Try.prog.cellsOf 24 = 1 := by kernel_rfl
theorem trod_struct1Policy {t : TypeId} {f0 : Field} {fuel : Nat} {cs : List Value} {x : DataW H × List MemPlace} (ht : Try.prog.underlying t = some (.struct #[f0])) (h : DataW.trod enc Try.prog w 0 (fun _ => true) held fuel t cs = some x) :
    ∃ y0 n, DataW.trod enc Try.prog w 0 (fun _ => true) held n f0.type ((cs.drop f0.offset).take (Try.prog.cellsOf f0.type)) = some y0 := by
  obtain ⟨xs, n, _, rfl, hl, hlen, hf⟩ := DataW.trod_struct ht h
  match xs, hlen with
  | [y0], _ => exact ⟨y0, n, by simpa using hf 0 f0 rfl⟩
set_option maxRecDepth 100000 in
/-- A policy that came in. -/
theorem policy_in {r : Reach} {b0 : Nat} {v : Value} {d : DataW H} {p : List MemPlace} (hv : Value.okWide Try.prog w r b0 24 v) (h : DataW.Trod enc Try.prog w 0 (fun _ => true) held 24 v d p) :
    ∃ (A : Option Addr) (n cap : Nat) (xs : List (List Int)), v = .agg #[.slice A n cap] ∧ n ≤ maxLen ∧ InLL w w.heap.size A n xs ∧ ∀ y ∈ xs, y.length ≤ maxLen := by
  obtain ⟨cs, rfl, hsz⟩ := okWide_struct Try.underlying24 hv
  have h2 : cs.toList.length = 1 := by rw [cellsPolicy] at hsz; simpa using hsz
  obtain ⟨fuel, hf⟩ := h
  have hf' : DataW.trod enc Try.prog w 0 (fun _ => true) held fuel 24 cs.toList = some (d, p) := by simpa [Value.cells] using hf
  obtain ⟨l⟩ := cs
  match l, h2 with
  | [c0], _ =>
    obtain ⟨y0, m, h0⟩ := trod_struct1Policy Try.underlying24 hf'
    have h0' : DataW.trod enc Try.prog w 0 (fun _ => true) held m 22 [c0] = some y0 := h0
    obtain ⟨A, n, cap, xs, rfl, a1, a2, a3⟩ := rows_in h0'
    exact ⟨A, n, cap, xs, rfl, a1, a2, a3⟩
end

set_option maxRecDepth 100000 in
set_option maxHeartbeats 1000000 in
theorem szPolicy_k (A : Option Addr) (n c B : Nat) (xs : List (List Int)) (left : Int) (w : World) (h : InLL w B A n xs) (hB : B ≤ w.heap.size) (hl0 : 0 ≤ left) (hl1 : left ≤ 1048576) (hn : n ≤ maxLen) (he : ∀ x ∈ xs, x.length ≤ maxLen) :
    Calls Try.prog 7 #[.agg #[.slice A n c], .int .i64 left] w fun e w' => e = .returned (.int .i64 (szv left (n + totLL xs))) ∧ Below w.heap.size w w' := by
  have hb0 := bnew w (.cells #[.slice A n c] 24)
  have HSZ0 := szInt64SS_k A n c B xs left _ (h.next hb0 hB) (Nat.le_trans hB hb0.size) hl0 hl1 hn he
  obtain ⟨V, HV⟩ : ∃ V, Hid (szv left (n + totLL xs) = V) := ⟨_, rfl⟩
  have hc : 0 ≤ V ∨ V = -1 := by
    rw [← HV.out]
    rcases Int.lt_or_le left ((n + totLL xs : Nat) : Int) with h | h
    · exact .inr (szv_no h)
    · exact .inl (by rw [szv_yes h]; omega)
  rw [HV.out] at HSZ0
  have HSZ := Lib.hid HSZ0
  clear h he HSZ0
  go_enter Try.func7, Try.ntmps7
  go_wp2_with fail
  generalize w.alloc (.cells #[.slice A n c] 24) = W at hb0 HSZ ⊢
  refine HSZ.out.mono ?_
  rintro e w1 ⟨rfl, hb1⟩
  rcases hc with hc | rfl
  · go_wp2_with fail
    go_ret
    exact ⟨ret_int HV.out.symm, bon hb0 hb1⟩
  · go_wp2_with fail
    go_ret
    exact ⟨ret_int HV.out.symm, bon hb0 hb1⟩

set_option maxRecDepth 100000 in
set_option maxHeartbeats 2000000 in
theorem toPolicy_k (A : Option Addr) (n c B : Nat) (xs : List (List Int)) (w : World) (h : InLL w B A n xs) (hB : B ≤ w.heap.size) (hn : n ≤ 1048576) (he : totLL xs ≤ 1048576) :
    Calls Try.prog 9 #[.agg #[.slice A n c]] w fun e w' => ∃ g, e = .returned (.agg #[.slice (some ⟨g, 0, none⟩) n n]) ∧ OwnLL w' w.heap.size w'.heap.size (some ⟨g, 0, none⟩) n n xs ∧ Below w.heap.size w w' := by
  have hb0 : Below w.heap.size w (((w.alloc (.cells #[.slice A n c] 24)).alloc (.cells #[.slice none 0 0] 26)).alloc (.cells #[.slice none 0 0] 26)) := bon (bon (bnew _ _) (bnew _ _)) (bnew _ _)
  have hsz : (((w.alloc (.cells #[.slice A n c] 24)).alloc (.cells #[.slice none 0 0] 26)).alloc (.cells #[.slice none 0 0] 26)).heap.size = w.heap.size + 3 := by simp
  have hin := Lib.hid (h.next hb0 hB)
  clear h
  have hR : BlkIs (((w.alloc (.cells #[.slice A n c] 24)).alloc (.cells #[.slice none 0 0] 26)).alloc (.cells #[.slice none 0 0] 26)) (w.heap.size + 1) 26 #[.slice none 0 0] := (blk_new _ _ _ _ (by simp)).next (bnew _ _)
  have hO : BlkIs (((w.alloc (.cells #[.slice A n c] 24)).alloc (.cells #[.slice none 0 0] 26)).alloc (.cells #[.slice none 0 0] 26)) (w.heap.size + 1 + 1) 26 #[.slice none 0 0] := blk_new _ _ _ _ (by simp)
  go_enter Try.func9, Try.ntmps9
  go_wp2_with fail
  generalize ((w.alloc (.cells #[.slice A n c] 24)).alloc (.cells #[.slice none 0 0] 26)).alloc (.cells #[.slice none 0 0] 26) = W at hb0 hsz hin hR hO ⊢
  refine (toInt64SS_m A n c B xs W hin.out (by omega) hn he).mono ?_
  rintro e w1 ⟨g, rfl, hts, hb1⟩
  have hs1 := hb1.size
  have hR1 := hR.next hb1
  have hO1 := hO.next hb1
  have o0 := hO1.cell 0
  have f0 := hO1.frozen 0
  have r0 := hR1.cell 0
  have k0 := hR1.frozen 0
  simp at o0 r0
  go_wp2_with fail
  refine bodyPost_ret (v := .agg #[.slice (some ⟨g, 0, none⟩) n n]) (by simp [results, Try.results9, go_sem, r0]) rfl ?_
  have ho : Out (w.heap.size + 1) (w.heap.size + 3) w1 ((w1.setCell ⟨w.heap.size + 1 + 1, 0, none⟩ (.slice (some ⟨g, 0, none⟩) n n)).setCell ⟨w.heap.size + 1, 0, none⟩ (.slice (some ⟨g, 0, none⟩) n n)) :=
    out_set (out_set (Out.refl _ _ _) (by omega)) (by omega)
  have hso := ho.size
  exact ⟨g, rfl, ((hts.out ho (by omega)).less (by omega)).wide hso (Nat.le_refl _), (bon hb0 hb1).trans (ho.below (by omega) (by omega))⟩

set_option maxRecDepth 100000 in
set_option maxHeartbeats 1000000 in
theorem eqPolicy_k (A A' : Option Addr) (n c c' B B' : Nat) (xs : List (List Int)) (w : World) (h : InLL w B A n xs) (h' : InLL w B' A' n xs) (hB : B ≤ w.heap.size) (hB' : B' ≤ w.heap.size) (hn : n ≤ 1048576) (he : totLL xs ≤ 1048576) :
    Calls Try.prog 11 #[.agg #[.slice A n c], .agg #[.slice A' n c']] w fun e w' => e = .returned (.bool true) ∧ Below w.heap.size w w' := by
  have hb0 : Below w.heap.size w ((w.alloc (.cells #[.slice A n c] 26)).alloc (.cells #[.slice A' n c'] 26)) := bon (bnew _ _) (bnew _ _)
  have h1 := Lib.hid (h.next hb0 hB)
  have h3 := Lib.hid (h'.next hb0 hB')
  clear h h'
  go_enter Try.func11, Try.ntmps11
  go_wp2_with fail
  generalize (w.alloc (.cells #[.slice A n c] 26)).alloc (.cells #[.slice A' n c'] 26) = W at hb0 h1 h3 ⊢
  have hs0 := hb0.size
  refine (eqInt64SS_k A A' n c c' B B' xs W h1.out h3.out (by omega) (by omega) hn he).mono ?_
  rintro e w1 ⟨rfl, hb1⟩
  go_wp2_with fail
  go_ret
  exact ⟨rfl, bon hb0 hb1⟩

set_option maxRecDepth 100000 in
set_option maxHeartbeats 2000000 in
theorem markPolicy_k (lo hi : Nat) (A : Option Addr) (n c : Nat) (xs : List (List Int)) (k : Int) (w : World) (h : OwnLL w lo hi A n c xs) (hn : n ≤ 1048576) (he : totLL xs ≤ 1048576) (hk1 : 0 ≤ k) (hk2 : k ≤ 100000000) :
    Calls Try.prog 12 #[.agg #[.slice A n c], .int .i64 k] w fun e w' => e = .returned (.int .i64 (k + ((totLL xs : Nat) : Int))) ∧ OwnLL w' lo hi A n c (riseLL k xs) ∧ Out lo hi w w' := by
  have hb0 := bnew w (.cells #[.slice A n c] 26)
  have HM := Lib.hid (markInt64SS_o lo hi A n c xs k _ (h.next hb0) hn he hk1 hk2)
  clear h
  go_enter Try.func12, Try.ntmps12
  go_wp2_with fail
  generalize w.alloc (.cells #[.slice A n c] 26) = W at hb0 HM ⊢
  refine HM.out.mono ?_
  rintro e w1 ⟨rfl, ow1, ho⟩
  have HO := Lib.hid ow1
  clear HM ow1
  go_wp2_with fail
  go_ret
  exact ⟨rfl, HO.out, (Out.of_below hb0).trans ho⟩
set_option maxRecDepth 100000 in
set_option maxHeartbeats 2000000 in
theorem heldPolicy_k (A : Option Addr) (n c B : Nat) (xs : List (List Int)) (k : Int) (w : World) (h : InLL w B A n (riseLL k xs)) (hB : B ≤ w.heap.size) (hn : n ≤ 1048576) (he : totLL xs ≤ 1048576) (hk1 : 0 ≤ k) (hk2 : k ≤ 100000000) :
    Calls Try.prog 13 #[.agg #[.slice A n c], .int .i64 k] w fun e w' => e = .returned (.int .i64 (k + ((totLL xs : Nat) : Int))) ∧ Below w.heap.size w w' := by
  have hb0 := bnew w (.cells #[.slice A n c] 26)
  have HM := Lib.hid (heldInt64SS_k A n c B xs k _ (h.next hb0 hB) (Nat.le_trans hB hb0.size) hn he hk1 hk2)
  have HM0 := HM.out
  have hk3 : 0 ≤ k + ((totLL xs : Nat) : Int) := by omega
  clear h HM
  generalize ((totLL xs : Nat) : Int) = T at HM0 hk3 ⊢
  have HM := Lib.hid HM0
  clear HM0
  go_enter Try.func13, Try.ntmps13
  go_wp2_with fail
  generalize w.alloc (.cells #[.slice A n c] 26) = W at hb0 HM ⊢
  refine HM.out.mono ?_
  rintro e w1 ⟨rfl, hb1⟩
  go_wp2_with fail
  go_ret
  exact ⟨rfl, bon hb0 hb1⟩
end Go.Proofs.Ytopijecdhjnipaa
