/-
  The model's run of code, RunCode and CountCode. Conditions: at most 2^20 instructions and numbers.
-/
import Derived.Test.YtnfapodeifpeoaaRunP
import Derived.Test.YtnfapodeifpeoaaStV
import Derived.Test.YtnfapodeifpeoaaStepS
import Derived.Test.YtnfapodeifpeoaaSep
namespace Go.Proofs.Ytnfapodeifpeoaa
set_option linter.unusedVariables false
open Go.RowKit

/-- Behind i steps of a run with fuel F the config is d, and the places ks have been executed. -/
def RunTo (cs : List (Int × Int)) (F : Nat) (c : Cf) (i : Nat) (d : Cf) (ks : List Int) : Prop :=
  i ≤ F ∧ ks.length = i ∧ CfC d ∧ (∀ k ∈ ks, 0 ≤ k ∧ k < (cs.length : Int)) ∧ runN cs F c = ((runN cs (F - i) d).1, ks ++ (runN cs (F - i) d).2.1, (runN cs (F - i) d).2.2)
section
variable {cs : List (Int × Int)} {F i : Nat} {c d : Cf} {ks : List Int}
theorem RunTo.zero (hv : CfC c) : RunTo cs F c 0 c [] := ⟨Nat.zero_le _, rfl, hv, (fun k hk => by cases hk), by rw [Nat.sub_zero]; simp⟩
theorem RunTo.go (h : RunTo cs F c i d ks) (hc : codeB cs = true) (hi : i < F) (ho : outC cs d = 0) : RunTo cs F c (i + 1) (nextN cs d) (ks ++ [d.2.2.2]) := by
  obtain ⟨h1, h2, h3, h4, h5⟩ := h
  have h3' := outC_parts ho h3
  have hp := h3.p0
  refine ⟨by omega, by simp [h2], h3.next hc ho, fun k hk => ?_, ?_⟩
  · rcases List.mem_append.1 hk with hk | hk
    · exact h4 k hk
    · obtain rfl : k = d.2.2.2 := by simpa using hk
      exact ⟨hp, h3'.1⟩
  · have e : F - i = (F - (i + 1)) + 1 := by omega
    rw [h5, e, runN_go ho]
    simp
theorem RunTo.stop (h : RunTo cs F c i d ks) (hi : i < F) (ho : outC cs d ≠ 0) : runN cs F c = (d, ks, endO (outC cs d)) := by
  obtain ⟨h1, h2, h3, h4, h5⟩ := h
  have e : F - i = (F - (i + 1)) + 1 := by omega
  rw [h5, e, runN_stop ho]
  simp
theorem RunTo.fin (h : RunTo cs F c F d ks) : runN cs F c = (d, ks, 1) := by
  obtain ⟨h1, h2, h3, h4, h5⟩ := h
  rw [h5, Nat.sub_self, runN_zero]
  simp
end
/-- What RunCode and CountCode give. -/
def fuelB (f : Int) : Bool := decide (0 ≤ f) && decide (f ≤ 2000)
def runB (cs : List (Int × Int)) (vs zs : List Int) (f : Int) : Bool := codeB cs && (stB vs zs && fuelB f)
def c0R (vs zs : List Int) : Cf := (vs, zs, [], 0)
def runR (cs : List (Int × Int)) (vs zs : List Int) (f : Int) : (List Int × List Int) × List Int × Int × Bool :=
  if runB cs vs zs f = true then (((runN cs f.toNat (c0R vs zs)).1.1, (runN cs f.toNat (c0R vs zs)).1.2.1), evR cs (runN cs f.toNat (c0R vs zs)).2.1, (runN cs f.toNat (c0R vs zs)).2.2, true) else (([], []), [], 0, false)
def cntR (cs : List (Int × Int)) (vs zs : List Int) (f : Int) : List Int × Bool :=
  if runB cs vs zs f = true then (countR cs.length (runN cs f.toNat (c0R vs zs)).2.1, true) else ([], false)
section
variable {cs : List (Int × Int)} {vs zs : List Int} {f : Int}
theorem runR_yes (h : runB cs vs zs f = true) : runR cs vs zs f = (((runN cs f.toNat (c0R vs zs)).1.1, (runN cs f.toNat (c0R vs zs)).1.2.1), evR cs (runN cs f.toNat (c0R vs zs)).2.1, (runN cs f.toNat (c0R vs zs)).2.2, true) := if_pos h
theorem runR_no (h : runB cs vs zs f = false) : runR cs vs zs f = (([], []), [], 0, false) := if_neg (by rw [h]; simp)
theorem cntR_yes (h : runB cs vs zs f = true) : cntR cs vs zs f = (countR cs.length (runN cs f.toNat (c0R vs zs)).2.1, true) := if_pos h
theorem cntR_no (h : runB cs vs zs f = false) : cntR cs vs zs f = ([], false) := if_neg (by rw [h]; simp)
end
end Go.Proofs.Ytnfapodeifpeoaa

namespace Go.Proofs.Ytnfapodeifpeoaa
set_option linter.unusedVariables false
open Go.RowKit

/-- What the model's run holds in memory: the config's block and rows, the events, the counts, all apart. -/
def RunM (w : World) (base cb gc ge : Nat) (X : Option Addr) (cx : Nat) (X' : Option Addr) (cx' : Nat) (X2 : Option Addr) (cx2 : Nat) (d : Cf) (k ne ce : Nat) (evs cnt : List Int) : Prop :=
  ∃ l h, BlkIs w cb 44 #[.slice X 4 cx, .slice X' 8 cx', .slice X2 d.2.2.1.length cx2, .int .i64 d.2.2.2] ∧ OwnL w l h X 4 cx d.1 ∧ OwnL w l h X' 8 cx' d.2.1 ∧ OwnL w l h X2 d.2.2.1.length cx2 d.2.2.1 ∧ OwnL w ge (ge + 1) (some ⟨ge, 0, none⟩) ne ce evs ∧ OwnL w gc (gc + 1) (some ⟨gc, 0, none⟩) k k cnt ∧
    (base ≤ cb ∧ base ≤ gc ∧ base ≤ ge ∧ base ≤ l) ∧ cb ≠ gc ∧ cb ≠ ge ∧ gc ≠ ge ∧ (cb < l ∨ h ≤ cb) ∧ (gc < l ∨ h ≤ gc) ∧ (ge < l ∨ h ≤ ge)
theorem RunM.next {w w' : World} {base cb gc ge cx cx' cx2 k ne ce : Nat} {X X' X2 : Option Addr} {d : Cf} {evs cnt : List Int} (m : RunM w base cb gc ge X cx X' cx' X2 cx2 d k ne ce evs cnt) (hb : Below w.heap.size w w') : RunM w' base cb gc ge X cx X' cx' X2 cx2 d k ne ce evs cnt := by
  obtain ⟨l, h, a, b, c, e, f, g, r⟩ := m
  exact ⟨l, h, a.next hb, b.next hb, c.next hb, e.next hb, f.next hb, g.next hb, r⟩
theorem OwnL.cap {w : World} {lo hi n c : Nat} {A : Option Addr} {l : List Int} (h : OwnL w lo hi A n c l) : n ≤ c := by
  rcases h.2.1.2 with ⟨h1, h2⟩ | ⟨b, cap, cur, h1, h2, h3, h4, _⟩
  · omega
  · injection h1 with _ _ e; omega
theorem OwnL.exact {w : World} {base n c g hi : Nat} {l : List Int} (h : OwnL w base hi (some ⟨g, 0, none⟩) n c l) : OwnL w g (g + 1) (some ⟨g, 0, none⟩) n c l := by
  have hlt := h.2.2.1 g rfl
  have hw := h.2.2.2
  refine ⟨h.1, ⟨h.2.1.1, ?_⟩, (fun k hk => by have hk' : some g = some k := hk; injection hk' with e; omega), by omega⟩
  rcases h.2.1.2 with ⟨h1, h2⟩ | ⟨b, cap, cur, h1, h2, r⟩
  · cases h1
  · have h1' := h1
    injection h1 with e _ _
    injection e with e
    injection e with e _ _
    exact .inr ⟨b, cap, cur, h1', by omega, r⟩
theorem OwnL.bound {w : World} {lo hi n c : Nat} {A : Option Addr} {l : List Int} (h : OwnL w lo hi A n c l) : InL w w.heap.size A n l := h.all
/-- What a run of the model gives. -/
def RunSQ (cs : List (Int × Int)) (k : Nat) (r : Cf × List Int × Int) (w : World) : Ending → World → Prop := fun e w' =>
  ∃ X cx X' cx' E ce K ck, e = .returned (.tuple #[.agg #[.slice X 4 cx, .slice X' 8 cx'], .slice E (evR cs r.2.1).length ce, .int .i64 r.2.2, .slice K k ck]) ∧ OwnL w' w.heap.size w'.heap.size X 4 cx r.1.1 ∧ OwnL w' w.heap.size w'.heap.size X' 8 cx' r.1.2.1 ∧
    OwnL w' w.heap.size w'.heap.size E (evR cs r.2.1).length ce (evR cs r.2.1) ∧ OwnL w' w.heap.size w'.heap.size K k ck (countR k r.2.1) ∧ Below w.heap.size w w'

set_option maxRecDepth 100000 in
set_option maxHeartbeats 3000000 in
theorem l07Run_c (C : Option Addr) (k cc : Nat) (cs : List (Int × Int)) (sb : Nat) (A : Option Addr) (c : Nat) (vs : List Int) (A' : Option Addr) (c' : Nat) (zs : List Int) (f : Int) (B : Nat) (w : World)
    (q0 : w.cell? ⟨sb, 0, none⟩ = some (.slice A 4 c)) (q1 : w.cell? ⟨sb, 1, none⟩ = some (.slice A' 8 c')) (h0 : InL w B A 4 vs) (h1 : InL w B A' 8 zs) (hC : InC w B C k cs) (hB : B ≤ w.heap.size) (hcode : codeB cs = true) (v : CfV vs zs [] 0) (hf0 : 0 ≤ f) (hf1 : f ≤ 2000) :
    Calls Try.prog 68 #[.slice C k cc, .pointer (some ⟨sb, 0, none⟩), .int .i64 f] w (RunSQ cs k (runN cs f.toNat (c0R vs zs)) w) := by
  obtain ⟨i0, hif, hz0, hz1, hz2⟩ := info_parts info64
  have hk8 : 1 ≤ k ∧ k ≤ 80 := by have := (codeB_parts hcode); have := hC.1; omega
  have hb0 : Below w.heap.size w (w.alloc (.cells #[.slice none 0 0, .slice none 0 0] 42)) := bnew _ _
  have hR : BlkIs (w.alloc (.cells #[.slice none 0 0, .slice none 0 0] 42)) w.heap.size 42 #[.slice none 0 0, .slice none 0 0] := blk_new _ _ _ _ rfl
  have hsz : (w.alloc (.cells #[.slice none 0 0, .slice none 0 0] 42)).heap.size = w.heap.size + 1 := by simp
  have HOW := Lib.hid (l03Own_c sb A 4 c vs A' 8 c' zs B (w.alloc (.cells #[.slice none 0 0, .slice none 0 0] 42)) (cell_next q0 hb0) (cell_next q1 hb0) (h0.next hb0 hB) (h1.next hb0 hB) (by omega) (by omega) (by omega))
  have HC := Lib.hid (hC.next hb0 hB)
  obtain ⟨F, hF⟩ : ∃ F : Nat, Hid (f = F) := ⟨f.toNat, by show _ = _; omega⟩
  have HCODE := Lib.hid hcode
  have HRT : Hid (RunTo cs F (c0R vs zs) 0 (c0R vs zs) []) := RunTo.zero v
  have eF : f.toNat = F := by have := hF.out; omega
  rw [eF]
  have hF2 : F ≤ 2000 := by have := hF.out; omega
  clear q0 q1 h0 h1 hC hcode v eF
  go_enter Try.func68, Try.ntmps68
  go_wp2_with fail
  generalize w.alloc (.cells #[.slice none 0 0, .slice none 0 0] 42) = W at hb0 hR hsz HOW HC ⊢
  refine HOW.out.mono ?_
  rintro e v1 ⟨X, cx, X', cx', mid, rfl, ow1, ow1', hmd, hb1⟩
  have hsA : (((v1.alloc (.cells #[] 2)).alloc (.cells #[.slice X 4 cx, .slice X' 8 cx', .slice (some ⟨v1.heap.size, 0, none⟩) 0 0, .int .i64 0] 44)).alloc (.cells #[] 2)).heap.size = v1.heap.size + 3 := by simp
  have hbA : Below v1.heap.size v1 (((v1.alloc (.cells #[] 2)).alloc (.cells #[.slice X 4 cx, .slice X' 8 cx', .slice (some ⟨v1.heap.size, 0, none⟩) 0 0, .int .i64 0] 44)).alloc (.cells #[] 2)) := bon (bon (bnew _ _) (bnew _ _)) (bnew _ _)
  have hs1 := hb1.size
  have r1 : OwnL (((v1.alloc (.cells #[] 2)).alloc (.cells #[.slice X 4 cx, .slice X' 8 cx', .slice (some ⟨v1.heap.size, 0, none⟩) 0 0, .int .i64 0] 44)).alloc (.cells #[] 2)) W.heap.size mid X 4 cx vs := ow1.next hbA
  have r2 : OwnL (((v1.alloc (.cells #[] 2)).alloc (.cells #[.slice X 4 cx, .slice X' 8 cx', .slice (some ⟨v1.heap.size, 0, none⟩) 0 0, .int .i64 0] 44)).alloc (.cells #[] 2)) mid v1.heap.size X' 8 cx' zs := ow1'.next hbA
  have r3 : OwnL (((v1.alloc (.cells #[] 2)).alloc (.cells #[.slice X 4 cx, .slice X' 8 cx', .slice (some ⟨v1.heap.size, 0, none⟩) 0 0, .int .i64 0] 44)).alloc (.cells #[] 2)) v1.heap.size (v1.heap.size + 1) (some ⟨v1.heap.size, 0, none⟩) 0 0 [] := (((OwnL.of_own (zs := []) (own_empty v1 2)).exact).next (bnew _ _)).next (bnew _ _)
  have r4 : OwnL (((v1.alloc (.cells #[] 2)).alloc (.cells #[.slice X 4 cx, .slice X' 8 cx', .slice (some ⟨v1.heap.size, 0, none⟩) 0 0, .int .i64 0] 44)).alloc (.cells #[] 2)) (v1.heap.size + 2) (v1.heap.size + 3) (some ⟨v1.heap.size + 2, 0, none⟩) 0 0 [] := by
    have := (OwnL.of_own (zs := []) (own_empty ((v1.alloc (.cells #[] 2)).alloc (.cells #[.slice X 4 cx, .slice X' 8 cx', .slice (some ⟨v1.heap.size, 0, none⟩) 0 0, .int .i64 0] 44)) 2)).exact
    rw [show ((v1.alloc (.cells #[] 2)).alloc (.cells #[.slice X 4 cx, .slice X' 8 cx', .slice (some ⟨v1.heap.size, 0, none⟩) 0 0, .int .i64 0] 44)).heap.size = v1.heap.size + 2 by simp] at this
    exact this
  have rB : BlkIs (((v1.alloc (.cells #[] 2)).alloc (.cells #[.slice X 4 cx, .slice X' 8 cx', .slice (some ⟨v1.heap.size, 0, none⟩) 0 0, .int .i64 0] 44)).alloc (.cells #[] 2)) (v1.heap.size + 1) 44 #[.slice X 4 cx, .slice X' 8 cx', .slice (some ⟨v1.heap.size, 0, none⟩) 0 0, .int .i64 0] := (blk_new (v1.alloc (.cells #[] 2)) 44 _ _ (by simp)).next (bnew _ _)
  clear ow1 ow1' HOW
  go_wp2_with (at_make; refine wpList_make_full _ rfl _ _ 35 rfl (v1.heap.size + 3) 2 i0 (.int .i64 0) 1 Try.underlying35 hif hz0 hz1 .i64 .i64 _ _ k rfl rfl rfl rfl (by rw [hz2]; omega) (by unfold maxLen; omega) (by simp) ?_; intro w2 hown hgrow)
  have hbG : Below (((v1.alloc (.cells #[] 2)).alloc (.cells #[.slice X 4 cx, .slice X' 8 cx', .slice (some ⟨v1.heap.size, 0, none⟩) 0 0, .int .i64 0] 44)).alloc (.cells #[] 2)).heap.size (((v1.alloc (.cells #[] 2)).alloc (.cells #[.slice X 4 cx, .slice X' 8 cx', .slice (some ⟨v1.heap.size, 0, none⟩) 0 0, .int .i64 0] 44)).alloc (.cells #[] 2)) w2 := (Below.refl _ _).grown hgrow (Nat.le_refl _) (fun _ h => by cases h)
  rw [hsA] at hown
  have hrep : OwnL w2 (v1.heap.size + 3) (v1.heap.size + 4) (some ⟨v1.heap.size + 3, 0, none⟩) k k (countR k []) := by
    have h1 : OwnL w2 (v1.heap.size + 3) w2.heap.size (some ⟨v1.heap.size + 3, 0, none⟩) k k (List.replicate k 0) := OwnL.of_own (by rw [List.map_replicate]; have e := copy_start k ([] : List Value) (z := .int .i64 0); rw [Nat.mul_one] at e; have h := hown; simp at h; rw [e] at h; simpa [ic] using h)
    exact h1.exact
  have hs2 : v1.heap.size + 4 ≤ w2.heap.size := by have := hrep.2.2.2; omega
  have hM0 : Hid (RunM w2 W.heap.size (v1.heap.size + 1) (v1.heap.size + 3) (v1.heap.size + 2) X cx X' cx' (some ⟨v1.heap.size, 0, none⟩) 0 (vs, zs, [], 0) k 0 0 (evR cs []) (countR k [])) := by
    have t1 := r1.next hbG
    have t2 := r2.next hbG
    have t3 := r3.next hbG
    have hmm := hs1
    exact ⟨W.heap.size, v1.heap.size + 1, rB.next hbG, t1.wide (by omega) (by omega), (t2.less (by omega)).wide (by omega) (by omega), t3.less (by omega), r4.next hbG, hrep, ⟨by omega, by omega, by omega, Nat.le_refl _⟩, by omega, by omega, by omega, by omega, by omega, by omega⟩
  have hbW2 : Below W.heap.size W w2 := bon hb1 (hbA.trans (hbG.mono hbA.size))
  clear hown hgrow hbG hrep r1 r2 r3 r4 rB hbA hsA
  go_loopw [11, 13, 14, 15] (fun ev st nx ou wr => ∃ (i ge ne ce : Nat) (X : Option Addr) (cx : Nat) (X' : Option Addr) (cx' : Nat) (X2 : Option Addr) (cx2 : Nat) (dv dz ds : List Int) (dp : Int) (ks : List Int), st = .int .i64 (i : Int) ∧ ev = .slice (some ⟨ge, 0, none⟩) ne ce ∧ Hid (RunTo cs F (c0R vs zs) i (dv, dz, ds, dp) ks) ∧ Hid (RunM wr W.heap.size (v1.heap.size + 1) (v1.heap.size + 3) ge X cx X' cx' X2 cx2 (dv, dz, ds, dp) k ne ce (evR cs ks) (countR k ks)) ∧ Below W.heap.size W wr ∧ v1.heap.size + 4 ≤ wr.heap.size) (fun _ st _ _ _ => F - (intOf st).toNat)
  case atStart => exact ⟨0, v1.heap.size + 2, 0, 0, X, cx, X', cx', some ⟨v1.heap.size, 0, none⟩, 0, vs, zs, [], 0, [], rfl, rfl, HRT, hM0, hbW2, hs2⟩
  case round =>
    clear hM0 hbW2 hs2 HRT
    obtain ⟨i, ge, ne, ce, X, cx, X', cx', X2, cx2, dv, dz, ds, dp, ks, rfl, rfl, hRT, hM, hbel, hs4⟩ := hrel
    obtain ⟨l, h, uB, u1, u2, u3, u4, u5, ug, n1, n2, n3, a1, a2, a3⟩ := hM.out
    have hRw := hR.next hbel
    have hbw := hb0.trans (hbel.mono (by omega))
    by_cases hiF : i = F
    · have eqT : ((i : Int) == f) = true := by have := hF.out; simp; omega
      have HE : Hid (i = F) := hiF
      clear hiF hM
      have k0 : wr.cell? ⟨v1.heap.size + 1, 0, none⟩ = some (.slice X 4 cx) := uB.cell 0
      have k1 : wr.cell? ⟨v1.heap.size + 1, 1, none⟩ = some (.slice X' 8 cx') := uB.cell 1
      have z0 : wr.cell? ⟨w.heap.size, 0, none⟩ = some (.slice none 0 0) := hRw.cell 0
      have z1 : wr.cell? ⟨w.heap.size, 1, none⟩ = some (.slice none 0 0) := hRw.cell 1
      have y0 := hRw.frozen 0
      have y1 := hRw.frozen 1
      have hR5 := (hRw.set 0 (.slice X 4 cx)).set 1 (.slice X' 8 cx')
      have ho5 : Out w.heap.size (w.heap.size + 1) wr ((wr.setCell ⟨w.heap.size, 0, none⟩ (.slice X 4 cx)).setCell ⟨w.heap.size, 1, none⟩ (.slice X' 8 cx')) := out_set (out_set (Out.refl _ _ _) (by omega)) (by omega)
      have s0 : ((wr.setCell ⟨w.heap.size, 0, none⟩ (.slice X 4 cx)).setCell ⟨w.heap.size, 1, none⟩ (.slice X' 8 cx')).cell? ⟨w.heap.size, 0, none⟩ = some (.slice X 4 cx) := by rw [hR5.cell 0]; simp
      have s1 : ((wr.setCell ⟨w.heap.size, 0, none⟩ (.slice X 4 cx)).setCell ⟨w.heap.size, 1, none⟩ (.slice X' 8 cx')).cell? ⟨w.heap.size, 1, none⟩ = some (.slice X' 8 cx') := by rw [hR5.cell 1]; simp
      have hsE := ho5.size
      have g1 := ((u1.out ho5 (by omega)).less (lo' := w.heap.size) (by omega)).wide (hi' := ((wr.setCell ⟨w.heap.size, 0, none⟩ (.slice X 4 cx)).setCell ⟨w.heap.size, 1, none⟩ (.slice X' 8 cx')).heap.size) (by have := u1.2.2.2; omega) (Nat.le_refl _)
      have g2 := ((u2.out ho5 (by omega)).less (lo' := w.heap.size) (by omega)).wide (hi' := ((wr.setCell ⟨w.heap.size, 0, none⟩ (.slice X 4 cx)).setCell ⟨w.heap.size, 1, none⟩ (.slice X' 8 cx')).heap.size) (by have := u2.2.2.2; omega) (Nat.le_refl _)
      have g4 := ((u4.out ho5 (by omega)).less (lo' := w.heap.size) (by omega)).wide (hi' := ((wr.setCell ⟨w.heap.size, 0, none⟩ (.slice X 4 cx)).setCell ⟨w.heap.size, 1, none⟩ (.slice X' 8 cx')).heap.size) (by have := u4.2.2.2; omega) (Nat.le_refl _)
      have g5 := ((u5.out ho5 (by omega)).less (lo' := w.heap.size) (by omega)).wide (hi' := ((wr.setCell ⟨w.heap.size, 0, none⟩ (.slice X 4 cx)).setCell ⟨w.heap.size, 1, none⟩ (.slice X' 8 cx')).heap.size) (by have := u5.2.2.2; omega) (Nat.le_refl _)
      have hb5 := (hbw).trans (ho5.below (by omega) (hbw).size)
      have G1 := Lib.hid g1
      have G2 := Lib.hid g2
      have G4 := Lib.hid g4
      have G5 := Lib.hid g5
      have HU4 := Lib.hid u4.1
      have HRUN := Lib.hid (show runN cs F (c0R vs zs) = ((dv, dz, ds, dp), ks, 1) from (by have h := hRT.out; rw [HE.out] at h; exact h.fin))
      clear g1 g2 g4 g5 uB u1 u2 u3 u4 u5 hR5 ho5
      go_wp2_with fail
      generalize ((wr.setCell ⟨w.heap.size, 0, none⟩ (.slice X 4 cx)).setCell ⟨w.heap.size, 1, none⟩ (.slice X' 8 cx')) = W5 at s0 s1 hb5 G1 G2 G4 G5 ⊢
      refine bodyPost_ret (v := .tuple #[.agg #[.slice X 4 cx, .slice X' 8 cx'], .slice (some ⟨ge, 0, none⟩) ne ce, .int .i64 1, .slice (some ⟨v1.heap.size + 3, 0, none⟩) k k]) (by simp [results, Try.results68, go_sem, s0, s1]) rfl ?_
      rw [HRUN.out]
      exact ⟨X, cx, X', cx', (some ⟨ge, 0, none⟩), ce, (some ⟨v1.heap.size + 3, 0, none⟩), k, by show _ = Ending.returned (.tuple #[.agg #[.slice X 4 cx, .slice X' 8 cx'], .slice (some ⟨ge, 0, none⟩) (evR cs ks).length ce, .int .i64 1, .slice (some ⟨v1.heap.size + 3, 0, none⟩) k k]); rw [HU4.out], G1.out, G2.out, (by show OwnL _ _ _ _ (evR cs ks).length ce (evR cs ks); rw [HU4.out]; exact G4.out), G5.out, hb5⟩
    · have eqT : ((i : Int) == f) = false := by have := hF.out; simp; omega
      have hlt : i < F := by have := hRT.out.1; omega
      have hvd : CfV dv dz ds dp := hRT.out.2.2.1
      have HNX0 := l07Next_c (v1.heap.size + 1) X cx dv X' cx' dz X2 cx2 ds C k cc cs wr.heap.size wr dp uB u1.all u2.all u3.all ((HC.out.next hbel (by omega)).more (by omega)) (Nat.le_refl _) u3.cap HCODE.out hvd
      obtain ⟨⟨v4, z8, s6, pp⟩, hbe⟩ : ∃ x, Hid (behN cs (dv, dz, ds, dp) = x) := ⟨_, rfl⟩
      obtain ⟨oo, hoo⟩ : ∃ x, Hid (outN cs ds dp = x) := ⟨_, rfl⟩
      rw [hbe.out, hoo.out] at HNX0
      have HNX := Lib.hid (show Calls Try.prog 62 #[.slice C k cc, .pointer (some ⟨v1.heap.size + 1, 0, none⟩)] wr (NextR v4 z8 s6 pp oo wr) from HNX0)
      have HVD := Lib.hid hvd
      have HLT := Lib.hid hlt
      clear HNX0 hvd hlt hiF hM
      have HUB := Lib.hid uB
      have HGE := Lib.hid (show ge < wr.heap.size from by have := u4.2.2.2; omega)
      clear uB
      go_wp2_with fail
      refine HNX.out.mono ?_
      rintro e v2 ⟨Y, cy, Y', cy', Y2, cy2, rfl, o1, o2, o3, hb3⟩
      have hbN := bnew v2 (.cells #[.slice Y 4 cy, .slice Y' 8 cy', .slice Y2 s6.length cy2, .int .i64 pp] 44)
      have hbN2 := bon hb3 hbN
      have hsN : (v2.alloc (.cells #[.slice Y 4 cy, .slice Y' 8 cy', .slice Y2 s6.length cy2, .int .i64 pp] 44)).heap.size = v2.heap.size + 1 := by simp
      have hs3 := hb3.size
      have hN : BlkIs (v2.alloc (.cells #[.slice Y 4 cy, .slice Y' 8 cy', .slice Y2 s6.length cy2, .int .i64 pp] 44)) v2.heap.size 44 #[.slice Y 4 cy, .slice Y' 8 cy', .slice Y2 s6.length cy2, .int .i64 pp] := blk_new _ _ _ _ rfl
      have uB := HUB.out.next hbN2
      replace u1 := u1.next hbN2
      replace u2 := u2.next hbN2
      replace u3 := u3.next hbN2
      replace u4 := u4.next hbN2
      replace u5 := u5.next hbN2
      have hRN := hRw.next hbN2
      have hbwN := bon hbw hbN2
      clear HNX HUB hRw hb3 hbN
      by_cases h6 : oo = 6
      · subst h6
        clear o1 o2 o3 hN
        have k0 : (v2.alloc (.cells #[.slice Y 4 cy, .slice Y' 8 cy', .slice Y2 s6.length cy2, .int .i64 pp] 44)).cell? ⟨v1.heap.size + 1, 0, none⟩ = some (.slice X 4 cx) := uB.cell 0
        have k1 : (v2.alloc (.cells #[.slice Y 4 cy, .slice Y' 8 cy', .slice Y2 s6.length cy2, .int .i64 pp] 44)).cell? ⟨v1.heap.size + 1, 1, none⟩ = some (.slice X' 8 cx') := uB.cell 1
        have z0 : (v2.alloc (.cells #[.slice Y 4 cy, .slice Y' 8 cy', .slice Y2 s6.length cy2, .int .i64 pp] 44)).cell? ⟨w.heap.size, 0, none⟩ = some (.slice none 0 0) := hRN.cell 0
        have z1 : (v2.alloc (.cells #[.slice Y 4 cy, .slice Y' 8 cy', .slice Y2 s6.length cy2, .int .i64 pp] 44)).cell? ⟨w.heap.size, 1, none⟩ = some (.slice none 0 0) := hRN.cell 1
        have y0 := hRN.frozen 0
        have y1 := hRN.frozen 1
        have hR5 := (hRN.set 0 (.slice X 4 cx)).set 1 (.slice X' 8 cx')
        have ho5 : Out w.heap.size (w.heap.size + 1) (v2.alloc (.cells #[.slice Y 4 cy, .slice Y' 8 cy', .slice Y2 s6.length cy2, .int .i64 pp] 44)) (((v2.alloc (.cells #[.slice Y 4 cy, .slice Y' 8 cy', .slice Y2 s6.length cy2, .int .i64 pp] 44)).setCell ⟨w.heap.size, 0, none⟩ (.slice X 4 cx)).setCell ⟨w.heap.size, 1, none⟩ (.slice X' 8 cx')) := out_set (out_set (Out.refl _ _ _) (by omega)) (by omega)
        have s0 : (((v2.alloc (.cells #[.slice Y 4 cy, .slice Y' 8 cy', .slice Y2 s6.length cy2, .int .i64 pp] 44)).setCell ⟨w.heap.size, 0, none⟩ (.slice X 4 cx)).setCell ⟨w.heap.size, 1, none⟩ (.slice X' 8 cx')).cell? ⟨w.heap.size, 0, none⟩ = some (.slice X 4 cx) := by rw [hR5.cell 0]; simp
        have s1 : (((v2.alloc (.cells #[.slice Y 4 cy, .slice Y' 8 cy', .slice Y2 s6.length cy2, .int .i64 pp] 44)).setCell ⟨w.heap.size, 0, none⟩ (.slice X 4 cx)).setCell ⟨w.heap.size, 1, none⟩ (.slice X' 8 cx')).cell? ⟨w.heap.size, 1, none⟩ = some (.slice X' 8 cx') := by rw [hR5.cell 1]; simp
        have hsE := ho5.size
        have g1 := ((u1.out ho5 (by omega)).less (lo' := w.heap.size) (by omega)).wide (hi' := (((v2.alloc (.cells #[.slice Y 4 cy, .slice Y' 8 cy', .slice Y2 s6.length cy2, .int .i64 pp] 44)).setCell ⟨w.heap.size, 0, none⟩ (.slice X 4 cx)).setCell ⟨w.heap.size, 1, none⟩ (.slice X' 8 cx')).heap.size) (by have := u1.2.2.2; omega) (Nat.le_refl _)
        have g2 := ((u2.out ho5 (by omega)).less (lo' := w.heap.size) (by omega)).wide (hi' := (((v2.alloc (.cells #[.slice Y 4 cy, .slice Y' 8 cy', .slice Y2 s6.length cy2, .int .i64 pp] 44)).setCell ⟨w.heap.size, 0, none⟩ (.slice X 4 cx)).setCell ⟨w.heap.size, 1, none⟩ (.slice X' 8 cx')).heap.size) (by have := u2.2.2.2; omega) (Nat.le_refl _)
        have g4 := ((u4.out ho5 (by omega)).less (lo' := w.heap.size) (by omega)).wide (hi' := (((v2.alloc (.cells #[.slice Y 4 cy, .slice Y' 8 cy', .slice Y2 s6.length cy2, .int .i64 pp] 44)).setCell ⟨w.heap.size, 0, none⟩ (.slice X 4 cx)).setCell ⟨w.heap.size, 1, none⟩ (.slice X' 8 cx')).heap.size) (by have := u4.2.2.2; omega) (Nat.le_refl _)
        have g5 := ((u5.out ho5 (by omega)).less (lo' := w.heap.size) (by omega)).wide (hi' := (((v2.alloc (.cells #[.slice Y 4 cy, .slice Y' 8 cy', .slice Y2 s6.length cy2, .int .i64 pp] 44)).setCell ⟨w.heap.size, 0, none⟩ (.slice X 4 cx)).setCell ⟨w.heap.size, 1, none⟩ (.slice X' 8 cx')).heap.size) (by have := u5.2.2.2; omega) (Nat.le_refl _)
        have hb5 := (hbwN).trans (ho5.below (by omega) (hbwN).size)
        have G1 := Lib.hid g1
        have G2 := Lib.hid g2
        have G4 := Lib.hid g4
        have G5 := Lib.hid g5
        have HU4 := Lib.hid u4.1
        have HRUN := Lib.hid (show runN cs F (c0R vs zs) = ((dv, dz, ds, dp), ks, 0) from (by rw [hRT.out.stop HLT.out (show outC cs (dv, dz, ds, dp) ≠ 0 from by show outN cs ds dp ≠ 0; rw [hoo.out]; decide)]; show (_, _, endO (outN cs ds dp)) = _; rw [hoo.out]; rfl))
        clear g1 g2 g4 g5 uB u1 u2 u3 u4 u5 hR5 ho5
        go_wp2_with fail
        generalize (((v2.alloc (.cells #[.slice Y 4 cy, .slice Y' 8 cy', .slice Y2 s6.length cy2, .int .i64 pp] 44)).setCell ⟨w.heap.size, 0, none⟩ (.slice X 4 cx)).setCell ⟨w.heap.size, 1, none⟩ (.slice X' 8 cx')) = W5 at s0 s1 hb5 G1 G2 G4 G5 ⊢
        refine bodyPost_ret (v := .tuple #[.agg #[.slice X 4 cx, .slice X' 8 cx'], .slice (some ⟨ge, 0, none⟩) ne ce, .int .i64 0, .slice (some ⟨v1.heap.size + 3, 0, none⟩) k k]) (by simp [results, Try.results68, go_sem, s0, s1]) rfl ?_
        rw [HRUN.out]
        exact ⟨X, cx, X', cx', (some ⟨ge, 0, none⟩), ce, (some ⟨v1.heap.size + 3, 0, none⟩), k, by show _ = Ending.returned (.tuple #[.agg #[.slice X 4 cx, .slice X' 8 cx'], .slice (some ⟨ge, 0, none⟩) (evR cs ks).length ce, .int .i64 0, .slice (some ⟨v1.heap.size + 3, 0, none⟩) k k]); rw [HU4.out], G1.out, G2.out, (by show OwnL _ _ _ _ (evR cs ks).length ce (evR cs ks); rw [HU4.out]; exact G4.out), G5.out, hb5⟩
      · by_cases hz : oo = 0
        · subst hz
          have hoc : outC cs (dv, dz, ds, dp) = 0 := hoo.out
          obtain ⟨hq1, ⟨op, a⟩, hx, hfit, hout⟩ := outC_parts hoc hRT.out.2.2.1
          have hRT2 := hRT.out.go HCODE.out HLT.out hoc
          have hnx : nextN cs (dv, dz, ds, dp) = (v4, z8, s6, pp) := by rw [← hbe.out]; exact (behN_go hoo.out).symm
          rw [hnx] at hRT2
          obtain ⟨q, rfl⟩ : ∃ q : Nat, dp = q := ⟨dp.toNat, by have := HVD.out.p0; omega⟩
          have hqk : q < k := by have := HC.out.1; have : (q : Int) < (cs.length : Int) := hq1; omega
          have hqk1 : (q : Int) < (k : Int) := by omega
          have hqk0 : (0 : Int) ≤ (q : Int) := by omega
          have hx' : cs[q]? = some (op, a) := by simpa using hx
          have hkl : (countR k ks).length = k := countR_len _ _
          have hcx : 0 ≤ (countR k ks).getD q 0 ∧ (countR k ks).getD q 0 ≤ ks.length := countR_bound _ (mem_getD (by omega))
          obtain ⟨xq, hxq⟩ : ∃ x, Hid ((countR k ks).getD q 0 = x) := ⟨_, rfl⟩
          rw [hxq.out] at hcx
          have hkn : ks.length = i := hRT.out.2.1
          have hiF2 := HLT.out
          have wrx : IntKind.i64.wrap (xq + 1) = xq + 1 := IntWalk.i64_in _ (by omega)
          have hcnt : (countR k ks).set q (xq + 1) = countR k (ks ++ [(q : Int)]) := by rw [countR_snoc, ← hxq.out]; unfold bump; simp
          have wri : IntKind.i64.wrap ((i : Int) + 1) = (i : Int) + 1 := IntWalk.i64_in _ (by omega)
          have c3 : (v2.alloc (.cells #[.slice Y 4 cy, .slice Y' 8 cy', .slice Y2 s6.length cy2, .int .i64 pp] 44)).cell? ⟨v1.heap.size + 1, 3, none⟩ = some (.int .i64 (q : Int)) := uB.cell 3
          have cq : (v2.alloc (.cells #[.slice Y 4 cy, .slice Y' 8 cy', .slice Y2 s6.length cy2, .int .i64 pp] 44)).cell? ⟨v1.heap.size + 3, q, none⟩ = some (.int .i64 xq) := by
            have := u5.2.1.cellAt q (by omega)
            rw [List.getElem?_map, some_getD (by omega), hxq.out] at this
            exact this
          have fq := u5.2.1.frozenAt q
          have hoq : Out (v1.heap.size + 3) (v1.heap.size + 4) (v2.alloc (.cells #[.slice Y 4 cy, .slice Y' 8 cy', .slice Y2 s6.length cy2, .int .i64 pp] 44)) ((v2.alloc (.cells #[.slice Y 4 cy, .slice Y' 8 cy', .slice Y2 s6.length cy2, .int .i64 pp] 44)).setCell ⟨v1.heap.size + 3, q, none⟩ (.int .i64 (xq + 1))) := out_set (Out.refl _ _ _) (by omega)
          have hs2w := hoq.size
          have uB2 := uB.out hoq (by omega)
          have t1 := (o1.next (bnew v2 (.cells #[.slice Y 4 cy, .slice Y' 8 cy', .slice Y2 s6.length cy2, .int .i64 pp] 44))).out hoq (by left; omega)
          have t2 := (o2.next (bnew v2 (.cells #[.slice Y 4 cy, .slice Y' 8 cy', .slice Y2 s6.length cy2, .int .i64 pp] 44))).out hoq (by left; omega)
          have t3 := (o3.next (bnew v2 (.cells #[.slice Y 4 cy, .slice Y' 8 cy', .slice Y2 s6.length cy2, .int .i64 pp] 44))).out hoq (by left; omega)
          have t4 := u4.out hoq (by omega)
          have t5 := u5.set hqk (xq + 1)
          rw [hcnt] at t5
          have hN2 := hN.out hoq (by omega)
          have c32 : ((v2.alloc (.cells #[.slice Y 4 cy, .slice Y' 8 cy', .slice Y2 s6.length cy2, .int .i64 pp] 44)).setCell ⟨v1.heap.size + 3, q, none⟩ (.int .i64 (xq + 1))).cell? ⟨v1.heap.size + 1, 3, none⟩ = some (.int .i64 (q : Int)) := uB2.cell 3
          have hbW := (bon hbel hbN2).trans (hoq.below (by omega) (by have := hbel.size; omega))
          have hCW := (HC.out.next hbW (by omega)).at_ hqk
          obtain ⟨bb, off, tt, rfl, hbl, ht, x0, x1⟩ := hCW
          obtain rfl : tt = (op, a) := by rw [hx'] at ht; injection ht with ht; exact ht.symm
          have ne1 : (evR cs ks).length = ne := u4.1
          have hnl := evR_len cs ks
          have h4l : ge < ((v2.alloc (.cells #[.slice Y 4 cy, .slice Y' 8 cy', .slice Y2 s6.length cy2, .int .i64 pp] 44)).setCell ⟨v1.heap.size + 3, q, none⟩ (.int .i64 (xq + 1))).heap.size := by have := t4.2.2.2; omega
          have hgew := ug.2.2.1
          have hgl : ge < v2.heap.size + 1 ∨ True := .inr trivial
          have hgN : ge < wr.heap.size := HGE.out
          have wrq : v1.heap.size + 4 ≤ wr.heap.size := hs4
          have hoc4 : ∀ (x : World), Out (v1.heap.size + 1) (v1.heap.size + 2) x ((((x.setCell ⟨v1.heap.size + 1, 0, none⟩ (.slice Y 4 cy)).setCell ⟨v1.heap.size + 1, 1, none⟩ (.slice Y' 8 cy')).setCell ⟨v1.heap.size + 1, 2, none⟩ (.slice Y2 s6.length cy2)).setCell ⟨v1.heap.size + 1, 3, none⟩ (.int .i64 pp)) := fun x => out_set (out_set (out_set (out_set (Out.refl _ _ _) (by omega)) (by omega)) (by omega)) (by omega)
          clear u1 u2 u3 u4 u5 uB hN
          by_cases h9 : op = 9
          · have e9 : (op == 9) = true := by simp [h9]
            have hev : evR cs (ks ++ [(q : Int)]) = evR cs ks ++ [a] := evR_yes hx h9
            have hbal := bnew ((v2.alloc (.cells #[.slice Y 4 cy, .slice Y' 8 cy', .slice Y2 s6.length cy2, .int .i64 pp] 44)).setCell ⟨v1.heap.size + 3, q, none⟩ (.int .i64 (xq + 1))) (.cells #[.int .i64 a] 2)
            have hsal : (((v2.alloc (.cells #[.slice Y 4 cy, .slice Y' 8 cy', .slice Y2 s6.length cy2, .int .i64 pp] 44)).setCell ⟨v1.heap.size + 3, q, none⟩ (.int .i64 (xq + 1))).alloc (.cells #[.int .i64 a] 2)).heap.size = ((v2.alloc (.cells #[.slice Y 4 cy, .slice Y' 8 cy', .slice Y2 s6.length cy2, .int .i64 pp] 44)).setCell ⟨v1.heap.size + 3, q, none⟩ (.int .i64 (xq + 1))).heap.size + 1 := by simp
            have hs2e : ((v2.alloc (.cells #[.slice Y 4 cy, .slice Y' 8 cy', .slice Y2 s6.length cy2, .int .i64 pp] 44)).setCell ⟨v1.heap.size + 3, q, none⟩ (.int .i64 (xq + 1))).heap.size = v2.heap.size + 1 := by simp
            have s4 := (t4.next hbal).2.1
            have HARM : Hid (∀ g' cap' w3, w3.ownsRow ge 2 1 (.slice (some ⟨g', 0, none⟩) (ne + 1) cap') (ne + 1) ((evR cs ks).map ic ++ [.int .i64 a]) → (((v2.alloc (.cells #[.slice Y 4 cy, .slice Y' 8 cy', .slice Y2 s6.length cy2, .int .i64 pp] 44)).setCell ⟨v1.heap.size + 3, q, none⟩ (.int .i64 (xq + 1))).alloc (.cells #[.int .i64 a] 2)).grownBy w3 (Value.slice (some ⟨ge, 0, none⟩) ne ce).ownBlock → (some g' = (Value.slice (some ⟨ge, 0, none⟩) ne ce).ownBlock ∨ (((v2.alloc (.cells #[.slice Y 4 cy, .slice Y' 8 cy', .slice Y2 s6.length cy2, .int .i64 pp] 44)).setCell ⟨v1.heap.size + 3, q, none⟩ (.int .i64 (xq + 1))).alloc (.cells #[.int .i64 a] 2)).heap.size ≤ g') →
                BlkIs w3 (v1.heap.size + 1) 44 #[.slice X 4 cx, .slice X' 8 cx', .slice X2 ds.length cx2, .int .i64 (q : Int)] ∧ BlkIs w3 v2.heap.size 44 #[.slice Y 4 cy, .slice Y' 8 cy', .slice Y2 s6.length cy2, .int .i64 pp] ∧ RunM ((((w3.setCell ⟨v1.heap.size + 1, 0, none⟩ (.slice Y 4 cy)).setCell ⟨v1.heap.size + 1, 1, none⟩ (.slice Y' 8 cy')).setCell ⟨v1.heap.size + 1, 2, none⟩ (.slice Y2 s6.length cy2)).setCell ⟨v1.heap.size + 1, 3, none⟩ (.int .i64 pp)) W.heap.size (v1.heap.size + 1) (v1.heap.size + 3) g' Y cy Y' cy' Y2 cy2 (v4, z8, s6, pp) k (ne + 1) cap' (evR cs (ks ++ [(q : Int)])) (countR k (ks ++ [(q : Int)])) ∧ Below W.heap.size W ((((w3.setCell ⟨v1.heap.size + 1, 0, none⟩ (.slice Y 4 cy)).setCell ⟨v1.heap.size + 1, 1, none⟩ (.slice Y' 8 cy')).setCell ⟨v1.heap.size + 1, 2, none⟩ (.slice Y2 s6.length cy2)).setCell ⟨v1.heap.size + 1, 3, none⟩ (.int .i64 pp)) ∧ v1.heap.size + 4 ≤ ((((w3.setCell ⟨v1.heap.size + 1, 0, none⟩ (.slice Y 4 cy)).setCell ⟨v1.heap.size + 1, 1, none⟩ (.slice Y' 8 cy')).setCell ⟨v1.heap.size + 1, 2, none⟩ (.slice Y2 s6.length cy2)).setCell ⟨v1.heap.size + 1, 3, none⟩ (.int .i64 pp)).heap.size) := by
              intro g' cap' w3 hown hgrow hsep
              have hr := (own_cons hown).exact
              have hog : Out ge (ge + 1) (((v2.alloc (.cells #[.slice Y 4 cy, .slice Y' 8 cy', .slice Y2 s6.length cy2, .int .i64 pp] 44)).setCell ⟨v1.heap.size + 3, q, none⟩ (.int .i64 (xq + 1))).alloc (.cells #[.int .i64 a] 2)) w3 := Out.of_grown hgrow (fun k hk => by have hk' : some ge = some k := hk; injection hk' with e; omega)
              have hsg := hog.size
              have b1 := (uB2.next hbal).out hog (by omega)
              have b2 := (hN2.next hbal).out hog (by omega)
              have ho4 := hoc4 w3
              have hso := ho4.size
              have hge' : g' = ge ∨ (((v2.alloc (.cells #[.slice Y 4 cy, .slice Y' 8 cy', .slice Y2 s6.length cy2, .int .i64 pp] 44)).setCell ⟨v1.heap.size + 3, q, none⟩ (.int .i64 (xq + 1))).alloc (.cells #[.int .i64 a] 2)).heap.size ≤ g' := by
                rcases hsep with h | h
                · left; have h' : some g' = some ge := h; injection h'
                · exact .inr h
              have hrl := hr.2.2.2
              refine ⟨b1, b2, ⟨wr.heap.size, v2.heap.size, (((b1.set 0 _).set 1 _).set 2 _).set 3 _, ((t1.next hbal).out hog (by omega)).out ho4 (by omega), ((t2.next hbal).out hog (by omega)).out ho4 (by omega), ((t3.next hbal).out hog (by omega)).out ho4 (by omega), by rw [hev]; exact hr.out ho4 (by omega), ((t5.next hbal).out hog (by omega)).out ho4 (by omega), ⟨by omega, by omega, by omega, by omega⟩, by omega, by omega, by omega, by omega, by omega, by omega⟩, ?_, by omega⟩
              exact ((hbW.trans (hbal.mono (by omega))).trans (hog.below (by omega) (by omega))).trans (ho4.below (by omega) (by omega))
            clear t1 t2 t3 t4 t5 uB2 hN2
            go_wp2_with (at_builtin; refine wpList_append_sep rfl _ _ 35 rfl ge 2 i0 (.int .i64 0) 1 8 Try.underlying35 hif hz0 hz1 hz2 rfl (by decide) _ ne ((evR cs ks).map ic) rfl s4 ⟨v2.heap.size + 1, 0, none⟩ 1 1 [.int .i64 a] rfl rfl (cell_one_at _ _ _ _ (by simp)) (fun u hu => by simp at hu; subst hu; rfl) (by unfold maxLen; omega) (by omega) (by omega) (by decide) ?_; intro g' cap' w3 hown hgrow hsep; obtain ⟨d1, d2, hM2, hbE, hsE⟩ := HARM.out g' cap' w3 hown hgrow hsep; have cw0 : w3.cell? ⟨v1.heap.size + 1, 0, none⟩ = some (.slice X 4 cx) := d1.cell 0; have cw1 : w3.cell? ⟨v1.heap.size + 1, 1, none⟩ = some (.slice X' 8 cx') := d1.cell 1; have cw2 : w3.cell? ⟨v1.heap.size + 1, 2, none⟩ = some (.slice X2 ds.length cx2) := d1.cell 2; have cw3 : w3.cell? ⟨v1.heap.size + 1, 3, none⟩ = some (.int .i64 (q : Int)) := d1.cell 3; have cv0 := d1.frozen 0; have cv1 := d1.frozen 1; have cv2 := d1.frozen 2; have cv3 := d1.frozen 3; have cb0 : w3.cell? ⟨v2.heap.size, 0, none⟩ = some (.slice Y 4 cy) := d2.cell 0; have cb1 : w3.cell? ⟨v2.heap.size, 1, none⟩ = some (.slice Y' 8 cy') := d2.cell 1; have cb2 : w3.cell? ⟨v2.heap.size, 2, none⟩ = some (.slice Y2 s6.length cy2) := d2.cell 2; have cb3 : w3.cell? ⟨v2.heap.size, 3, none⟩ = some (.int .i64 pp) := d2.cell 3; clear hown hgrow hsep d1 d2)
            have HM2 := Lib.hid hM2
            have HRT2 := Lib.hid hRT2
            clear hM2 HARM s4
            go_roundw
            case rel => exact ⟨i + 1, g', ne + 1, cap', Y, cy, Y', cy', Y2, cy2, v4, z8, s6, pp, ks ++ [(q : Int)], by go_num, rfl, HRT2.out, HM2.out, hbE, hsE⟩
            case measure => simp [intOf]; omega
          · have e9 : (op == 9) = false := by simp [h9]
            have hev : evR cs (ks ++ [(q : Int)]) = evR cs ks := evR_no hx h9
            have ho4 := hoc4 ((v2.alloc (.cells #[.slice Y 4 cy, .slice Y' 8 cy', .slice Y2 s6.length cy2, .int .i64 pp] 44)).setCell ⟨v1.heap.size + 3, q, none⟩ (.int .i64 (xq + 1)))
            have hso := ho4.size
            have hM2 : Hid (RunM ((((((v2.alloc (.cells #[.slice Y 4 cy, .slice Y' 8 cy', .slice Y2 s6.length cy2, .int .i64 pp] 44)).setCell ⟨v1.heap.size + 3, q, none⟩ (.int .i64 (xq + 1))).setCell ⟨v1.heap.size + 1, 0, none⟩ (.slice Y 4 cy)).setCell ⟨v1.heap.size + 1, 1, none⟩ (.slice Y' 8 cy')).setCell ⟨v1.heap.size + 1, 2, none⟩ (.slice Y2 s6.length cy2)).setCell ⟨v1.heap.size + 1, 3, none⟩ (.int .i64 pp)) W.heap.size (v1.heap.size + 1) (v1.heap.size + 3) ge Y cy Y' cy' Y2 cy2 (v4, z8, s6, pp) k ne ce (evR cs (ks ++ [(q : Int)])) (countR k (ks ++ [(q : Int)]))) :=
              ⟨wr.heap.size, v2.heap.size, (((uB2.set 0 _).set 1 _).set 2 _).set 3 _, t1.out ho4 (by omega), t2.out ho4 (by omega), t3.out ho4 (by omega), by rw [hev]; exact t4.out ho4 (by omega), t5.out ho4 (by omega), ⟨by omega, by omega, by omega, by omega⟩, by omega, by omega, by omega, by omega, by omega, by omega⟩
            have hbE := hbW.trans (ho4.below (by omega) (by omega))
            have hsE : v1.heap.size + 4 ≤ ((((((v2.alloc (.cells #[.slice Y 4 cy, .slice Y' 8 cy', .slice Y2 s6.length cy2, .int .i64 pp] 44)).setCell ⟨v1.heap.size + 3, q, none⟩ (.int .i64 (xq + 1))).setCell ⟨v1.heap.size + 1, 0, none⟩ (.slice Y 4 cy)).setCell ⟨v1.heap.size + 1, 1, none⟩ (.slice Y' 8 cy')).setCell ⟨v1.heap.size + 1, 2, none⟩ (.slice Y2 s6.length cy2)).setCell ⟨v1.heap.size + 1, 3, none⟩ (.int .i64 pp)).heap.size := by omega
            have cw0 : ((v2.alloc (.cells #[.slice Y 4 cy, .slice Y' 8 cy', .slice Y2 s6.length cy2, .int .i64 pp] 44)).setCell ⟨v1.heap.size + 3, q, none⟩ (.int .i64 (xq + 1))).cell? ⟨v1.heap.size + 1, 0, none⟩ = some (.slice X 4 cx) := uB2.cell 0
            have cw1 : ((v2.alloc (.cells #[.slice Y 4 cy, .slice Y' 8 cy', .slice Y2 s6.length cy2, .int .i64 pp] 44)).setCell ⟨v1.heap.size + 3, q, none⟩ (.int .i64 (xq + 1))).cell? ⟨v1.heap.size + 1, 1, none⟩ = some (.slice X' 8 cx') := uB2.cell 1
            have cw2 : ((v2.alloc (.cells #[.slice Y 4 cy, .slice Y' 8 cy', .slice Y2 s6.length cy2, .int .i64 pp] 44)).setCell ⟨v1.heap.size + 3, q, none⟩ (.int .i64 (xq + 1))).cell? ⟨v1.heap.size + 1, 2, none⟩ = some (.slice X2 ds.length cx2) := uB2.cell 2
            have cw3 : ((v2.alloc (.cells #[.slice Y 4 cy, .slice Y' 8 cy', .slice Y2 s6.length cy2, .int .i64 pp] 44)).setCell ⟨v1.heap.size + 3, q, none⟩ (.int .i64 (xq + 1))).cell? ⟨v1.heap.size + 1, 3, none⟩ = some (.int .i64 (q : Int)) := uB2.cell 3
            have cv0 := uB2.frozen 0
            have cv1 := uB2.frozen 1
            have cv2 := uB2.frozen 2
            have cv3 := uB2.frozen 3
            have cb0 : ((v2.alloc (.cells #[.slice Y 4 cy, .slice Y' 8 cy', .slice Y2 s6.length cy2, .int .i64 pp] 44)).setCell ⟨v1.heap.size + 3, q, none⟩ (.int .i64 (xq + 1))).cell? ⟨v2.heap.size, 0, none⟩ = some (.slice Y 4 cy) := hN2.cell 0
            have cb1 : ((v2.alloc (.cells #[.slice Y 4 cy, .slice Y' 8 cy', .slice Y2 s6.length cy2, .int .i64 pp] 44)).setCell ⟨v1.heap.size + 3, q, none⟩ (.int .i64 (xq + 1))).cell? ⟨v2.heap.size, 1, none⟩ = some (.slice Y' 8 cy') := hN2.cell 1
            have cb2 : ((v2.alloc (.cells #[.slice Y 4 cy, .slice Y' 8 cy', .slice Y2 s6.length cy2, .int .i64 pp] 44)).setCell ⟨v1.heap.size + 3, q, none⟩ (.int .i64 (xq + 1))).cell? ⟨v2.heap.size, 2, none⟩ = some (.slice Y2 s6.length cy2) := hN2.cell 2
            have cb3 : ((v2.alloc (.cells #[.slice Y 4 cy, .slice Y' 8 cy', .slice Y2 s6.length cy2, .int .i64 pp] 44)).setCell ⟨v1.heap.size + 3, q, none⟩ (.int .i64 (xq + 1))).cell? ⟨v2.heap.size, 3, none⟩ = some (.int .i64 pp) := hN2.cell 3
            have HRT2 := Lib.hid hRT2
            clear t1 t2 t3 t4 t5 uB2 hN2 hRT2
            go_wp2_with fail
            go_roundw
            case rel => exact ⟨i + 1, ge, ne, ce, Y, cy, Y', cy', Y2, cy2, v4, z8, s6, pp, ks ++ [(q : Int)], by go_num, rfl, HRT2.out, hM2, hbE, hsE⟩
            case measure => simp [intOf]; omega
        · have e6 : (oo == 6) = false := by simp; omega
          have e0 : (oo != 0) = true := by simp; omega
          clear o1 o2 o3 hN
          have k0 : (v2.alloc (.cells #[.slice Y 4 cy, .slice Y' 8 cy', .slice Y2 s6.length cy2, .int .i64 pp] 44)).cell? ⟨v1.heap.size + 1, 0, none⟩ = some (.slice X 4 cx) := uB.cell 0
          have k1 : (v2.alloc (.cells #[.slice Y 4 cy, .slice Y' 8 cy', .slice Y2 s6.length cy2, .int .i64 pp] 44)).cell? ⟨v1.heap.size + 1, 1, none⟩ = some (.slice X' 8 cx') := uB.cell 1
          have z0 : (v2.alloc (.cells #[.slice Y 4 cy, .slice Y' 8 cy', .slice Y2 s6.length cy2, .int .i64 pp] 44)).cell? ⟨w.heap.size, 0, none⟩ = some (.slice none 0 0) := hRN.cell 0
          have z1 : (v2.alloc (.cells #[.slice Y 4 cy, .slice Y' 8 cy', .slice Y2 s6.length cy2, .int .i64 pp] 44)).cell? ⟨w.heap.size, 1, none⟩ = some (.slice none 0 0) := hRN.cell 1
          have y0 := hRN.frozen 0
          have y1 := hRN.frozen 1
          have hR5 := (hRN.set 0 (.slice X 4 cx)).set 1 (.slice X' 8 cx')
          have ho5 : Out w.heap.size (w.heap.size + 1) (v2.alloc (.cells #[.slice Y 4 cy, .slice Y' 8 cy', .slice Y2 s6.length cy2, .int .i64 pp] 44)) (((v2.alloc (.cells #[.slice Y 4 cy, .slice Y' 8 cy', .slice Y2 s6.length cy2, .int .i64 pp] 44)).setCell ⟨w.heap.size, 0, none⟩ (.slice X 4 cx)).setCell ⟨w.heap.size, 1, none⟩ (.slice X' 8 cx')) := out_set (out_set (Out.refl _ _ _) (by omega)) (by omega)
          have s0 : (((v2.alloc (.cells #[.slice Y 4 cy, .slice Y' 8 cy', .slice Y2 s6.length cy2, .int .i64 pp] 44)).setCell ⟨w.heap.size, 0, none⟩ (.slice X 4 cx)).setCell ⟨w.heap.size, 1, none⟩ (.slice X' 8 cx')).cell? ⟨w.heap.size, 0, none⟩ = some (.slice X 4 cx) := by rw [hR5.cell 0]; simp
          have s1 : (((v2.alloc (.cells #[.slice Y 4 cy, .slice Y' 8 cy', .slice Y2 s6.length cy2, .int .i64 pp] 44)).setCell ⟨w.heap.size, 0, none⟩ (.slice X 4 cx)).setCell ⟨w.heap.size, 1, none⟩ (.slice X' 8 cx')).cell? ⟨w.heap.size, 1, none⟩ = some (.slice X' 8 cx') := by rw [hR5.cell 1]; simp
          have hsE := ho5.size
          have g1 := ((u1.out ho5 (by omega)).less (lo' := w.heap.size) (by omega)).wide (hi' := (((v2.alloc (.cells #[.slice Y 4 cy, .slice Y' 8 cy', .slice Y2 s6.length cy2, .int .i64 pp] 44)).setCell ⟨w.heap.size, 0, none⟩ (.slice X 4 cx)).setCell ⟨w.heap.size, 1, none⟩ (.slice X' 8 cx')).heap.size) (by have := u1.2.2.2; omega) (Nat.le_refl _)
          have g2 := ((u2.out ho5 (by omega)).less (lo' := w.heap.size) (by omega)).wide (hi' := (((v2.alloc (.cells #[.slice Y 4 cy, .slice Y' 8 cy', .slice Y2 s6.length cy2, .int .i64 pp] 44)).setCell ⟨w.heap.size, 0, none⟩ (.slice X 4 cx)).setCell ⟨w.heap.size, 1, none⟩ (.slice X' 8 cx')).heap.size) (by have := u2.2.2.2; omega) (Nat.le_refl _)
          have g4 := ((u4.out ho5 (by omega)).less (lo' := w.heap.size) (by omega)).wide (hi' := (((v2.alloc (.cells #[.slice Y 4 cy, .slice Y' 8 cy', .slice Y2 s6.length cy2, .int .i64 pp] 44)).setCell ⟨w.heap.size, 0, none⟩ (.slice X 4 cx)).setCell ⟨w.heap.size, 1, none⟩ (.slice X' 8 cx')).heap.size) (by have := u4.2.2.2; omega) (Nat.le_refl _)
          have g5 := ((u5.out ho5 (by omega)).less (lo' := w.heap.size) (by omega)).wide (hi' := (((v2.alloc (.cells #[.slice Y 4 cy, .slice Y' 8 cy', .slice Y2 s6.length cy2, .int .i64 pp] 44)).setCell ⟨w.heap.size, 0, none⟩ (.slice X 4 cx)).setCell ⟨w.heap.size, 1, none⟩ (.slice X' 8 cx')).heap.size) (by have := u5.2.2.2; omega) (Nat.le_refl _)
          have hb5 := (hbwN).trans (ho5.below (by omega) (hbwN).size)
          have G1 := Lib.hid g1
          have G2 := Lib.hid g2
          have G4 := Lib.hid g4
          have G5 := Lib.hid g5
          have HU4 := Lib.hid u4.1
          have HRUN := Lib.hid (show runN cs F (c0R vs zs) = ((dv, dz, ds, dp), ks, oo) from (by rw [hRT.out.stop HLT.out (show outC cs (dv, dz, ds, dp) ≠ 0 from by show outN cs ds dp ≠ 0; rw [hoo.out]; exact hz)]; show (_, _, endO (outN cs ds dp)) = _; rw [hoo.out]; unfold endO; rw [if_neg h6]))
          clear g1 g2 g4 g5 uB u1 u2 u3 u4 u5 hR5 ho5
          go_wp2_with fail
          generalize (((v2.alloc (.cells #[.slice Y 4 cy, .slice Y' 8 cy', .slice Y2 s6.length cy2, .int .i64 pp] 44)).setCell ⟨w.heap.size, 0, none⟩ (.slice X 4 cx)).setCell ⟨w.heap.size, 1, none⟩ (.slice X' 8 cx')) = W5 at s0 s1 hb5 G1 G2 G4 G5 ⊢
          refine bodyPost_ret (v := .tuple #[.agg #[.slice X 4 cx, .slice X' 8 cx'], .slice (some ⟨ge, 0, none⟩) ne ce, .int .i64 oo, .slice (some ⟨v1.heap.size + 3, 0, none⟩) k k]) (by simp [results, Try.results68, go_sem, s0, s1]) rfl ?_
          rw [HRUN.out]
          exact ⟨X, cx, X', cx', (some ⟨ge, 0, none⟩), ce, (some ⟨v1.heap.size + 3, 0, none⟩), k, by show _ = Ending.returned (.tuple #[.agg #[.slice X 4 cx, .slice X' 8 cx'], .slice (some ⟨ge, 0, none⟩) (evR cs ks).length ce, .int .i64 oo, .slice (some ⟨v1.heap.size + 3, 0, none⟩) k k]); rw [HU4.out], G1.out, G2.out, (by show OwnL _ _ _ _ (evR cs ks).length ce (evR cs ks); rw [HU4.out]; exact G4.out), G5.out, hb5⟩
end Go.Proofs.Ytnfapodeifpeoaa

namespace Go.Proofs.Ytnfapodeifpeoaa
set_option linter.unusedVariables false
open Go.RowKit

theorem l03Fuel_c (n : Int) (w : World) : Calls Try.prog 67 #[.int .i64 n] w fun e w' => e = .returned (.bool (fuelB n)) ∧ w = w' := by
  go_enter Try.func67, Try.ntmps67
  go_wp2_with fail
  refine (l00In_i n 0 2000 w).mono ?_
  rintro e w1 ⟨rfl, rfl⟩
  go_wp2_with fail
  go_ret
  exact ⟨rfl, rfl⟩
theorem runB_parts {cs : List (Int × Int)} {vs zs : List Int} {f : Int} (h : runB cs vs zs f = true) : codeB cs = true ∧ stB vs zs = true ∧ fuelB f = true ∧ CfV vs zs [] 0 ∧ 0 ≤ f ∧ f ≤ 2000 := by
  unfold runB at h
  simp only [Bool.and_eq_true] at h
  obtain ⟨h1, h2, h3⟩ := h
  have h2' := h2
  unfold stB at h2'
  simp only [Bool.and_eq_true] at h2'
  have a := numsB_parts h2'.1
  have d := numsB_parts h2'.2
  have h3' := h3
  unfold fuelB at h3'
  simp at h3'
  exact ⟨h1, h2, h3, ⟨a.1, d.1, Nat.zero_le _, a.2, d.2, (fun x hx => by cases hx), Int.le_refl _, by omega⟩, h3'.1, h3'.2⟩
theorem runN_len {cs : List (Int × Int)} {vs zs : List Int} {f : Int} (h : runB cs vs zs f = true) : (runN cs f.toNat (c0R vs zs)).1.1.length = 4 ∧ (runN cs f.toNat (c0R vs zs)).1.2.1.length = 8 ∧ (runN cs f.toNat (c0R vs zs)).2.1.length ≤ 2000 := by
  obtain ⟨h1, _, _, v, f0, f1⟩ := runB_parts h
  have a := runN_valid h1 f.toNat (c0R vs zs) v
  have b := (runN_places h1 f.toNat (c0R vs zs) v).1
  exact ⟨a.lv, a.lz, by omega⟩
theorem runR_len (cs : List (Int × Int)) (vs zs : List Int) (f : Int) : (runR cs vs zs f).1.1.length ≤ 1000 ∧ (runR cs vs zs f).1.2.length ≤ 1000 ∧ (runR cs vs zs f).2.1.length ≤ 2000 := by
  cases h : runB cs vs zs f with
  | false => rw [runR_no h]; simp
  | true =>
    rw [runR_yes h]
    obtain ⟨a, b, c⟩ := runN_len h
    have d := evR_len cs (runN cs f.toNat (c0R vs zs)).2.1
    refine ⟨?_, ?_, ?_⟩
    · show (runN cs f.toNat (c0R vs zs)).1.1.length ≤ 1000; omega
    · show (runN cs f.toNat (c0R vs zs)).1.2.1.length ≤ 1000; omega
    · show (evR cs (runN cs f.toNat (c0R vs zs)).2.1).length ≤ 2000; omega
theorem cntR_len (cs : List (Int × Int)) (vs zs : List Int) (f : Int) : (cntR cs vs zs f).1.length ≤ 1000 := by
  cases h : runB cs vs zs f with
  | false => rw [cntR_no h]; simp
  | true =>
    rw [cntR_yes h]
    show (countR cs.length _).length ≤ 1000
    rw [countR_len]
    have := (codeB_parts (runB_parts h).1).2.1
    omega

set_option maxRecDepth 100000 in
set_option maxHeartbeats 4000000 in
theorem specCount_c (C : Option Addr) (k cc : Nat) (cs : List (Int × Int)) (A : Option Addr) (n c : Nat) (vs : List Int) (A' : Option Addr) (m c' : Nat) (zs : List Int) (f : Int) (w : World)
    (hc : InC w w.heap.size C k cs) (h0 : InL w w.heap.size A n vs) (h1 : InL w w.heap.size A' m zs) (hk : k ≤ 1048576) (hn : n ≤ 1048576) (hm : m ≤ 1048576) :
    Calls Try.prog 41 #[.slice C k cc, .agg #[.slice A n c, .slice A' m c'], .int .i64 f] w fun e w' => ∃ R d, e = .returned (.tuple #[.slice R (cntR cs vs zs f).1.length d, .bool (cntR cs vs zs f).2]) ∧ OwnL w' w.heap.size w'.heap.size R (cntR cs vs zs f).1.length d (cntR cs vs zs f).1 ∧ Below w.heap.size w w' := by
  have hb0 := bnew w (.cells #[.slice A n c, .slice A' m c'] 42)
  have hP : BlkIs (w.alloc (.cells #[.slice A n c, .slice A' m c'] 42)) w.heap.size 42 #[.slice A n c, .slice A' m c'] := blk_new _ _ _ _ rfl
  have hsz : (w.alloc (.cells #[.slice A n c, .slice A' m c'] 42)).heap.size = w.heap.size + 1 := by simp
  have HC := Lib.hid (hc.next hb0 (Nat.le_refl _))
  have H0 := Lib.hid (h0.next hb0 (Nat.le_refl _))
  have H1 := Lib.hid (h1.next hb0 (Nat.le_refl _))
  have HIS0 := l07Is_c C k cc w.heap.size cs _ HC.out hb0.size hk
  have HFU0 := fun x => l03Fuel_c f x
  obtain ⟨R, HR⟩ : ∃ R, Hid (cntR cs vs zs f = R) := ⟨_, rfl⟩
  rw [HR.out]
  have hkk := hc.1
  clear hc h0 h1
  cases hv : runB cs vs zs f with
  | false =>
    have HN := Lib.hid (HR.out.symm.trans (cntR_no hv))
    cases hcb : codeB cs with
    | false =>
      rw [hcb] at HIS0
      have HIS := Lib.hid HIS0
      clear HIS0 HFU0 hv hcb
      go_enter Try.func41, Try.ntmps41
      go_wp2_with fail
      generalize w.alloc (.cells #[.slice A n c, .slice A' m c'] 42) = W at hb0 hP hsz HIS HC H0 H1 ⊢
      refine HIS.out.mono ?_
      rintro e w1 ⟨rfl, hb1⟩
      have hbf := bon hb0 hb1
      go_wp2_with fail
      go_ret2
      rw [HN.out]
      exact ⟨none, 0, rfl, own_none _ _ _ hbf.size (Nat.le_refl _), hbf⟩
    | true =>
      rw [hcb] at HIS0
      have HIS := Lib.hid HIS0
      obtain ⟨bs, hbs⟩ : ∃ b, Hid (stB vs zs = b) := ⟨_, rfl⟩
      obtain ⟨bf, hbf0⟩ : ∃ b, Hid (fuelB f = b) := ⟨_, rfl⟩
      have hand : (bs && bf) = false := by have h := hv; unfold runB at h; rw [hcb, hbs.out, hbf0.out] at h; simpa using h
      rw [hbf0.out] at HFU0
      have HFU := Lib.hid HFU0
      clear HIS0 HFU0 hv hcb
      go_enter Try.func41, Try.ntmps41
      go_wp2_with fail
      generalize w.alloc (.cells #[.slice A n c, .slice A' m c'] 42) = W at hb0 hP hsz HIS HC H0 H1 ⊢
      refine HIS.out.mono ?_
      rintro e w1 ⟨rfl, hb1⟩
      have hbf := bon hb0 hb1
      have hP1 := hP.next hb1
      have HST0 := l03State_c w.heap.size 0 A n c vs A' m c' zs w.heap.size w1 (hP1.cell 0) (hP1.cell 1) (H0.out.next hb1 (by omega)) (H1.out.next hb1 (by omega)) hn hm
      rw [hbs.out] at HST0
      have HST := Lib.hid HST0
      clear HST0 hP hP1 HIS hb1
      cases bs with
      | false =>
        go_wp2_with fail
        refine HST.out.mono ?_
        rintro e w2 ⟨rfl, rfl⟩
        go_wp2_with fail
        go_ret2
        rw [HN.out]
        exact ⟨none, 0, rfl, own_none _ _ _ hbf.size (Nat.le_refl _), hbf⟩
      | true =>
        obtain rfl : bf = false := by simpa using hand
        go_wp2_with fail
        refine HST.out.mono ?_
        rintro e w2 ⟨rfl, rfl⟩
        go_wp2_with fail
        refine (HFU.out _).mono ?_
        rintro e w2 ⟨rfl, rfl⟩
        go_wp2_with fail
        go_ret2
        rw [HN.out]
        exact ⟨none, 0, rfl, own_none _ _ _ hbf.size (Nat.le_refl _), hbf⟩
  | true =>
    obtain ⟨hcode, hst, hfu, v, hf0, hf1⟩ := runB_parts hv
    have HN := Lib.hid (HR.out.symm.trans (cntR_yes hv))
    obtain rfl : n = 4 := by rw [← H0.out.1]; exact v.lv
    obtain rfl : m = 8 := by rw [← H1.out.1]; exact v.lz
    rw [hcode] at HIS0
    rw [hfu] at HFU0
    have HIS := Lib.hid HIS0
    have HFU := Lib.hid HFU0
    have HV := Lib.hid v
    have HSTB := Lib.hid hst
    have HCODE := Lib.hid hcode
    clear HIS0 HFU0 hv hcode hst hfu v
    go_enter Try.func41, Try.ntmps41
    go_wp2_with fail
    generalize w.alloc (.cells #[.slice A 4 c, .slice A' 8 c'] 42) = W at hb0 hP hsz HIS HC H0 H1 ⊢
    refine HIS.out.mono ?_
    rintro e w1 ⟨rfl, hb1⟩
    have hbf := bon hb0 hb1
    have hs1 := hb1.size
    have hP1 := hP.next hb1
    have HST0 := l03State_c w.heap.size 0 A 4 c vs A' 8 c' zs w.heap.size w1 (hP1.cell 0) (hP1.cell 1) (H0.out.next hb1 (by omega)) (H1.out.next hb1 (by omega)) hn hm
    rw [HSTB.out] at HST0
    have HST := Lib.hid HST0
    have HRU := Lib.hid (l07Run_c C k cc cs w.heap.size A c vs A' c' zs f w.heap.size w1 (hP1.cell 0) (hP1.cell 1) (H0.out.next hb1 (by omega)) (H1.out.next hb1 (by omega)) (HC.out.next hb1 (by omega)) (by omega) HCODE.out HV.out hf0 hf1)
    clear HST0 hP hP1 HIS hb1 HC H0 H1
    go_wp2_with fail
    refine HST.out.mono ?_
    rintro e w2 ⟨rfl, rfl⟩
    go_wp2_with fail
    refine (HFU.out _).mono ?_
    rintro e w2 ⟨rfl, rfl⟩
    go_wp2_with fail
    refine HRU.out.mono ?_
    rintro e w3 ⟨X, cx, X', cx', E, ce, K, ck, rfl, o1, o2, o3, o4, hb3⟩
    have HO4 := Lib.hid o4
    have hs3 := hb3.size
    clear o1 o2 o3 o4 HRU HST HFU
    go_wp2_with fail
    go_ret2
    have hbA := bnew w3 (.cells #[.slice X 4 cx, .slice X' 8 cx'] 42)
    have g4 := HO4.out.next hbA
    have hsA := hbA.size
    rw [HN.out]
    refine ⟨K, ck, by show _ = Ending.returned (.tuple #[.slice K (countR cs.length (runN cs f.toNat (c0R vs zs)).2.1).length ck, .bool true]); rw [countR_len, hkk]; rfl, ?_, bon (bon hbf hb3) hbA⟩
    show OwnL _ _ _ K (countR cs.length (runN cs f.toNat (c0R vs zs)).2.1).length ck (countR cs.length (runN cs f.toNat (c0R vs zs)).2.1)
    rw [countR_len, hkk]
    exact (g4.less (by omega)).wide (by omega) (Nat.le_refl _)
end Go.Proofs.Ytnfapodeifpeoaa

namespace Go.Proofs.Ytnfapodeifpeoaa
set_option linter.unusedVariables false
open Go.RowKit

set_option maxRecDepth 100000 in
set_option maxHeartbeats 4000000 in
theorem specRun_c (C : Option Addr) (k cc : Nat) (cs : List (Int × Int)) (A : Option Addr) (n c : Nat) (vs : List Int) (A' : Option Addr) (m c' : Nat) (zs : List Int) (f : Int) (w : World)
    (hc : InC w w.heap.size C k cs) (h0 : InL w w.heap.size A n vs) (h1 : InL w w.heap.size A' m zs) (hk : k ≤ 1048576) (hn : n ≤ 1048576) (hm : m ≤ 1048576) :
    Calls Try.prog 32 #[.slice C k cc, .agg #[.slice A n c, .slice A' m c'], .int .i64 f] w fun e w' => ∃ R00 d00 R01 d01 R10 d10, e = .returned (.tuple #[.agg #[.slice R00 (runR cs vs zs f).1.1.length d00, .slice R01 (runR cs vs zs f).1.2.length d01], .slice R10 (runR cs vs zs f).2.1.length d10, .int .i64 (runR cs vs zs f).2.2.1, .bool (runR cs vs zs f).2.2.2]) ∧ OwnL w' w.heap.size w'.heap.size R00 (runR cs vs zs f).1.1.length d00 (runR cs vs zs f).1.1 ∧ OwnL w' w.heap.size w'.heap.size R01 (runR cs vs zs f).1.2.length d01 (runR cs vs zs f).1.2 ∧ OwnL w' w.heap.size w'.heap.size R10 (runR cs vs zs f).2.1.length d10 (runR cs vs zs f).2.1 ∧ Below w.heap.size w w' := by
  have hb0 : Below w.heap.size w ((w.alloc (.cells #[.slice A n c, .slice A' m c'] 42)).alloc (.cells #[.slice none 0 0, .slice none 0 0] 42)) := bon (bnew _ _) (bnew _ _)
  have hP : BlkIs ((w.alloc (.cells #[.slice A n c, .slice A' m c'] 42)).alloc (.cells #[.slice none 0 0, .slice none 0 0] 42)) w.heap.size 42 #[.slice A n c, .slice A' m c'] := (blk_new _ _ _ _ rfl).next (bnew _ _)
  have hR : BlkIs ((w.alloc (.cells #[.slice A n c, .slice A' m c'] 42)).alloc (.cells #[.slice none 0 0, .slice none 0 0] 42)) (w.heap.size + 1) 42 #[.slice none 0 0, .slice none 0 0] := blk_new _ _ _ _ (by simp)
  have hsz : ((w.alloc (.cells #[.slice A n c, .slice A' m c'] 42)).alloc (.cells #[.slice none 0 0, .slice none 0 0] 42)).heap.size = w.heap.size + 2 := by simp
  have HC := Lib.hid (hc.next hb0 (Nat.le_refl _))
  have H0 := Lib.hid (h0.next hb0 (Nat.le_refl _))
  have H1 := Lib.hid (h1.next hb0 (Nat.le_refl _))
  have HIS0 := l07Is_c C k cc w.heap.size cs _ HC.out hb0.size hk
  have HFU0 := fun x => l03Fuel_c f x
  obtain ⟨R, HR⟩ : ∃ R, Hid (runR cs vs zs f = R) := ⟨_, rfl⟩
  rw [HR.out]
  have hkk := hc.1
  clear hc h0 h1
  cases hv : runB cs vs zs f with
  | false =>
    have HN := Lib.hid (HR.out.symm.trans (runR_no hv))
    cases hcb : codeB cs with
    | false =>
      rw [hcb] at HIS0
      have HIS := Lib.hid HIS0
      clear HIS0 HFU0 hv hcb
      go_enter Try.func32, Try.ntmps32
      go_wp2_with fail
      generalize ((w.alloc (.cells #[.slice A n c, .slice A' m c'] 42)).alloc (.cells #[.slice none 0 0, .slice none 0 0] 42)) = W at hb0 hP hR hsz HIS HC H0 H1 ⊢
      refine HIS.out.mono ?_
      rintro e w1 ⟨rfl, hb1⟩
      have hbf := bon hb0 hb1
      have hR1 := hR.next hb1
      have z0 : w1.cell? ⟨w.heap.size + 1, 0, none⟩ = some (.slice none 0 0) := hR1.cell 0
      have z1 : w1.cell? ⟨w.heap.size + 1, 1, none⟩ = some (.slice none 0 0) := hR1.cell 1
      have y0 := hR1.frozen 0
      have y1 := hR1.frozen 1
      have hR5 := (hR1.set 0 (.slice none 0 0)).set 1 (.slice none 0 0)
      have s0 : ((w1.setCell ⟨w.heap.size + 1, 0, none⟩ (.slice none 0 0)).setCell ⟨w.heap.size + 1, 1, none⟩ (.slice none 0 0)).cell? ⟨w.heap.size + 1, 0, none⟩ = some (.slice none 0 0) := by rw [hR5.cell 0]; simp
      have s1 : ((w1.setCell ⟨w.heap.size + 1, 0, none⟩ (.slice none 0 0)).setCell ⟨w.heap.size + 1, 1, none⟩ (.slice none 0 0)).cell? ⟨w.heap.size + 1, 1, none⟩ = some (.slice none 0 0) := by rw [hR5.cell 1]; simp
      have ho5 : Out (w.heap.size + 1) (w.heap.size + 2) w1 ((w1.setCell ⟨w.heap.size + 1, 0, none⟩ (.slice none 0 0)).setCell ⟨w.heap.size + 1, 1, none⟩ (.slice none 0 0)) := out_set (out_set (Out.refl _ _ _) (by omega)) (by omega)
      have hsw := (hbf).size
      have hsE := ho5.size
      have hb5 := (hbf).trans (ho5.below (by omega) hsw)
      clear hR5
      go_wp2_with fail
      refine bodyPost_ret (v := .tuple #[.agg #[.slice none 0 0, .slice none 0 0], .slice none 0 0, .int .i64 0, .bool false]) (by simp [results, Try.results32, go_sem, s0, s1]) rfl ?_
      rw [HN.out]
      exact ⟨none, 0, none, 0, none, 0, rfl, own_none _ _ _ hb5.size (Nat.le_refl _), own_none _ _ _ hb5.size (Nat.le_refl _), own_none _ _ _ hb5.size (Nat.le_refl _), hb5⟩
    | true =>
      rw [hcb] at HIS0
      have HIS := Lib.hid HIS0
      obtain ⟨bs, hbs⟩ : ∃ b, Hid (stB vs zs = b) := ⟨_, rfl⟩
      obtain ⟨bf, hbf0⟩ : ∃ b, Hid (fuelB f = b) := ⟨_, rfl⟩
      have hand : (bs && bf) = false := by have h := hv; unfold runB at h; rw [hcb, hbs.out, hbf0.out] at h; simpa using h
      rw [hbf0.out] at HFU0
      have HFU := Lib.hid HFU0
      clear HIS0 HFU0 hv hcb
      go_enter Try.func32, Try.ntmps32
      go_wp2_with fail
      generalize ((w.alloc (.cells #[.slice A n c, .slice A' m c'] 42)).alloc (.cells #[.slice none 0 0, .slice none 0 0] 42)) = W at hb0 hP hR hsz HIS HC H0 H1 ⊢
      refine HIS.out.mono ?_
      rintro e w1 ⟨rfl, hb1⟩
      have hbf := bon hb0 hb1
      have hP1 := hP.next hb1
      have hR1 := hR.next hb1
      have HST0 := l03State_c w.heap.size 0 A n c vs A' m c' zs w.heap.size w1 (hP1.cell 0) (hP1.cell 1) (H0.out.next hb1 (by omega)) (H1.out.next hb1 (by omega)) hn hm
      rw [hbs.out] at HST0
      have HST := Lib.hid HST0
      clear HST0 hP hP1 HIS hb1
      cases bs with
      | false =>
        go_wp2_with fail
        refine HST.out.mono ?_
        rintro e w2 ⟨rfl, rfl⟩
        have z0 : w1.cell? ⟨w.heap.size + 1, 0, none⟩ = some (.slice none 0 0) := hR1.cell 0
        have z1 : w1.cell? ⟨w.heap.size + 1, 1, none⟩ = some (.slice none 0 0) := hR1.cell 1
        have y0 := hR1.frozen 0
        have y1 := hR1.frozen 1
        have hR5 := (hR1.set 0 (.slice none 0 0)).set 1 (.slice none 0 0)
        have s0 : ((w1.setCell ⟨w.heap.size + 1, 0, none⟩ (.slice none 0 0)).setCell ⟨w.heap.size + 1, 1, none⟩ (.slice none 0 0)).cell? ⟨w.heap.size + 1, 0, none⟩ = some (.slice none 0 0) := by rw [hR5.cell 0]; simp
        have s1 : ((w1.setCell ⟨w.heap.size + 1, 0, none⟩ (.slice none 0 0)).setCell ⟨w.heap.size + 1, 1, none⟩ (.slice none 0 0)).cell? ⟨w.heap.size + 1, 1, none⟩ = some (.slice none 0 0) := by rw [hR5.cell 1]; simp
        have ho5 : Out (w.heap.size + 1) (w.heap.size + 2) w1 ((w1.setCell ⟨w.heap.size + 1, 0, none⟩ (.slice none 0 0)).setCell ⟨w.heap.size + 1, 1, none⟩ (.slice none 0 0)) := out_set (out_set (Out.refl _ _ _) (by omega)) (by omega)
        have hsw := (hbf).size
        have hsE := ho5.size
        have hb5 := (hbf).trans (ho5.below (by omega) hsw)
        clear hR5
        go_wp2_with fail
        refine bodyPost_ret (v := .tuple #[.agg #[.slice none 0 0, .slice none 0 0], .slice none 0 0, .int .i64 0, .bool false]) (by simp [results, Try.results32, go_sem, s0, s1]) rfl ?_
        rw [HN.out]
        exact ⟨none, 0, none, 0, none, 0, rfl, own_none _ _ _ hb5.size (Nat.le_refl _), own_none _ _ _ hb5.size (Nat.le_refl _), own_none _ _ _ hb5.size (Nat.le_refl _), hb5⟩
      | true =>
        obtain rfl : bf = false := by simpa using hand
        go_wp2_with fail
        refine HST.out.mono ?_
        rintro e w2 ⟨rfl, rfl⟩
        go_wp2_with fail
        refine (HFU.out _).mono ?_
        rintro e w2 ⟨rfl, rfl⟩
        have z0 : w1.cell? ⟨w.heap.size + 1, 0, none⟩ = some (.slice none 0 0) := hR1.cell 0
        have z1 : w1.cell? ⟨w.heap.size + 1, 1, none⟩ = some (.slice none 0 0) := hR1.cell 1
        have y0 := hR1.frozen 0
        have y1 := hR1.frozen 1
        have hR5 := (hR1.set 0 (.slice none 0 0)).set 1 (.slice none 0 0)
        have s0 : ((w1.setCell ⟨w.heap.size + 1, 0, none⟩ (.slice none 0 0)).setCell ⟨w.heap.size + 1, 1, none⟩ (.slice none 0 0)).cell? ⟨w.heap.size + 1, 0, none⟩ = some (.slice none 0 0) := by rw [hR5.cell 0]; simp
        have s1 : ((w1.setCell ⟨w.heap.size + 1, 0, none⟩ (.slice none 0 0)).setCell ⟨w.heap.size + 1, 1, none⟩ (.slice none 0 0)).cell? ⟨w.heap.size + 1, 1, none⟩ = some (.slice none 0 0) := by rw [hR5.cell 1]; simp
        have ho5 : Out (w.heap.size + 1) (w.heap.size + 2) w1 ((w1.setCell ⟨w.heap.size + 1, 0, none⟩ (.slice none 0 0)).setCell ⟨w.heap.size + 1, 1, none⟩ (.slice none 0 0)) := out_set (out_set (Out.refl _ _ _) (by omega)) (by omega)
        have hsw := (hbf).size
        have hsE := ho5.size
        have hb5 := (hbf).trans (ho5.below (by omega) hsw)
        clear hR5
        go_wp2_with fail
        refine bodyPost_ret (v := .tuple #[.agg #[.slice none 0 0, .slice none 0 0], .slice none 0 0, .int .i64 0, .bool false]) (by simp [results, Try.results32, go_sem, s0, s1]) rfl ?_
        rw [HN.out]
        exact ⟨none, 0, none, 0, none, 0, rfl, own_none _ _ _ hb5.size (Nat.le_refl _), own_none _ _ _ hb5.size (Nat.le_refl _), own_none _ _ _ hb5.size (Nat.le_refl _), hb5⟩
  | true =>
    obtain ⟨hcode, hst, hfu, v, hf0, hf1⟩ := runB_parts hv
    have HN := Lib.hid (HR.out.symm.trans (runR_yes hv))
    have hlen := runN_len hv
    obtain rfl : n = 4 := by rw [← H0.out.1]; exact v.lv
    obtain rfl : m = 8 := by rw [← H1.out.1]; exact v.lz
    rw [hcode] at HIS0
    rw [hfu] at HFU0
    have HIS := Lib.hid HIS0
    have HFU := Lib.hid HFU0
    have HV := Lib.hid v
    have HSTB := Lib.hid hst
    have HCODE := Lib.hid hcode
    have HLEN := Lib.hid hlen
    clear HIS0 HFU0 hv hcode hst hfu v hlen
    go_enter Try.func32, Try.ntmps32
    go_wp2_with fail
    generalize ((w.alloc (.cells #[.slice A 4 c, .slice A' 8 c'] 42)).alloc (.cells #[.slice none 0 0, .slice none 0 0] 42)) = W at hb0 hP hR hsz HIS HC H0 H1 ⊢
    refine HIS.out.mono ?_
    rintro e w1 ⟨rfl, hb1⟩
    have hbf := bon hb0 hb1
    have hs1 := hb1.size
    have hP1 := hP.next hb1
    have hR1 := hR.next hb1
    have HST0 := l03State_c w.heap.size 0 A 4 c vs A' 8 c' zs w.heap.size w1 (hP1.cell 0) (hP1.cell 1) (H0.out.next hb1 (by omega)) (H1.out.next hb1 (by omega)) hn hm
    rw [HSTB.out] at HST0
    have HST := Lib.hid HST0
    have HRU := Lib.hid (l07Run_c C k cc cs w.heap.size A c vs A' c' zs f w.heap.size w1 (hP1.cell 0) (hP1.cell 1) (H0.out.next hb1 (by omega)) (H1.out.next hb1 (by omega)) (HC.out.next hb1 (by omega)) (by omega) HCODE.out HV.out hf0 hf1)
    clear HST0 hP hP1 HIS hb1 HC H0 H1 hR
    go_wp2_with fail
    refine HST.out.mono ?_
    rintro e w2 ⟨rfl, rfl⟩
    go_wp2_with fail
    refine (HFU.out _).mono ?_
    rintro e w2 ⟨rfl, rfl⟩
    go_wp2_with fail
    refine HRU.out.mono ?_
    rintro e w3 ⟨X, cx, X', cx', E, ce, K, ck, rfl, o1, o2, o3, o4, hb3⟩
    have hs3 := hb3.size
    have hbA := bnew w3 (.cells #[.slice X 4 cx, .slice X' 8 cx'] 42)
    have hsA := hbA.size
    have hRA := (hR1.next hb3).next hbA
    have hbfA := bon (bon hbf hb3) hbA
    have hNB : BlkIs (w3.alloc (.cells #[.slice X 4 cx, .slice X' 8 cx'] 42)) w3.heap.size 42 #[.slice X 4 cx, .slice X' 8 cx'] := blk_new _ _ _ _ rfl
    have n0 : (w3.alloc (.cells #[.slice X 4 cx, .slice X' 8 cx'] 42)).cell? ⟨w3.heap.size, 0, none⟩ = some (.slice X 4 cx) := hNB.cell 0
    have n1 : (w3.alloc (.cells #[.slice X 4 cx, .slice X' 8 cx'] 42)).cell? ⟨w3.heap.size, 1, none⟩ = some (.slice X' 8 cx') := hNB.cell 1
    replace o1 := o1.next hbA
    replace o2 := o2.next hbA
    replace o3 := o3.next hbA
    clear o4 HRU HST HFU hNB hb3 hbA
    have z0 : (w3.alloc (.cells #[.slice X 4 cx, .slice X' 8 cx'] 42)).cell? ⟨w.heap.size + 1, 0, none⟩ = some (.slice none 0 0) := hRA.cell 0
    have z1 : (w3.alloc (.cells #[.slice X 4 cx, .slice X' 8 cx'] 42)).cell? ⟨w.heap.size + 1, 1, none⟩ = some (.slice none 0 0) := hRA.cell 1
    have y0 := hRA.frozen 0
    have y1 := hRA.frozen 1
    have hR5 := (hRA.set 0 (.slice X 4 cx)).set 1 (.slice X' 8 cx')
    have s0 : (((w3.alloc (.cells #[.slice X 4 cx, .slice X' 8 cx'] 42)).setCell ⟨w.heap.size + 1, 0, none⟩ (.slice X 4 cx)).setCell ⟨w.heap.size + 1, 1, none⟩ (.slice X' 8 cx')).cell? ⟨w.heap.size + 1, 0, none⟩ = some (.slice X 4 cx) := by rw [hR5.cell 0]; simp
    have s1 : (((w3.alloc (.cells #[.slice X 4 cx, .slice X' 8 cx'] 42)).setCell ⟨w.heap.size + 1, 0, none⟩ (.slice X 4 cx)).setCell ⟨w.heap.size + 1, 1, none⟩ (.slice X' 8 cx')).cell? ⟨w.heap.size + 1, 1, none⟩ = some (.slice X' 8 cx') := by rw [hR5.cell 1]; simp
    have ho5 : Out (w.heap.size + 1) (w.heap.size + 2) (w3.alloc (.cells #[.slice X 4 cx, .slice X' 8 cx'] 42)) (((w3.alloc (.cells #[.slice X 4 cx, .slice X' 8 cx'] 42)).setCell ⟨w.heap.size + 1, 0, none⟩ (.slice X 4 cx)).setCell ⟨w.heap.size + 1, 1, none⟩ (.slice X' 8 cx')) := out_set (out_set (Out.refl _ _ _) (by omega)) (by omega)
    have hsw := (hbfA).size
    have hsE := ho5.size
    have hb5 := (hbfA).trans (ho5.below (by omega) hsw)
    have G1 := Lib.hid (((o1.out ho5 (by omega)).less (lo' := w.heap.size) (by omega)).wide (hi' := (((w3.alloc (.cells #[.slice X 4 cx, .slice X' 8 cx'] 42)).setCell ⟨w.heap.size + 1, 0, none⟩ (.slice X 4 cx)).setCell ⟨w.heap.size + 1, 1, none⟩ (.slice X' 8 cx')).heap.size) (by omega) (Nat.le_refl _))
    have G2 := Lib.hid (((o2.out ho5 (by omega)).less (lo' := w.heap.size) (by omega)).wide (hi' := (((w3.alloc (.cells #[.slice X 4 cx, .slice X' 8 cx'] 42)).setCell ⟨w.heap.size + 1, 0, none⟩ (.slice X 4 cx)).setCell ⟨w.heap.size + 1, 1, none⟩ (.slice X' 8 cx')).heap.size) (by omega) (Nat.le_refl _))
    have G3 := Lib.hid (((o3.out ho5 (by omega)).less (lo' := w.heap.size) (by omega)).wide (hi' := (((w3.alloc (.cells #[.slice X 4 cx, .slice X' 8 cx'] 42)).setCell ⟨w.heap.size + 1, 0, none⟩ (.slice X 4 cx)).setCell ⟨w.heap.size + 1, 1, none⟩ (.slice X' 8 cx')).heap.size) (by omega) (Nat.le_refl _))
    clear o1 o2 o3
    clear hR5
    go_wp2_with fail
    refine bodyPost_ret (v := .tuple #[.agg #[.slice X 4 cx, .slice X' 8 cx'], .slice E (evR cs (runN cs f.toNat (c0R vs zs)).2.1).length ce, .int .i64 (runN cs f.toNat (c0R vs zs)).2.2, .bool true]) (by simp [results, Try.results32, go_sem, s0, s1]) rfl ?_
    rw [HN.out]
    obtain ⟨⟨⟨dv, dz, ds, dp⟩, ks, oo⟩, HRN⟩ : ∃ x, Hid (runN cs f.toNat (c0R vs zs) = x) := ⟨_, rfl⟩
    have HLE := HLEN.out
    have g1 := G1.out
    have g2 := G2.out
    have g3 := G3.out
    rw [HRN.out] at HLE g1 g2 g3 ⊢
    obtain ⟨l1, l2, -⟩ := HLE
    have l1 : dv.length = 4 := l1
    have l2 : dz.length = 8 := l2
    exact ⟨X, cx, X', cx', E, ce, by show Ending.returned _ = Ending.returned (.tuple #[.agg #[.slice X dv.length cx, .slice X' dz.length cx'], .slice E (evR cs ks).length ce, .int .i64 oo, .bool true]); rw [l1, l2], by show OwnL _ _ _ X dv.length cx dv; rw [l1]; exact g1, by show OwnL _ _ _ X' dz.length cx' dz; rw [l2]; exact g2, g3, hb5⟩
end Go.Proofs.Ytnfapodeifpeoaa
