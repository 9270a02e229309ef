/-
  Elements of bodies: the comparison of equal lists, and the copy that the law makes. Conditions: at most 2^20 elements, terms and coefficients.
-/
import Derived.Test.YtajmbnimdngjhaaGreatDoorStmt
namespace Go.Proofs.YtajmbnimdngjhaaGreatDoor
set_option linter.unusedVariables false
open Go.RowKit

set_option maxRecDepth 100000 in
set_option maxHeartbeats 4000000 in
theorem eqStmtS_k (A A' : Option Addr) (n c c' B B' : Nat) (xs : List S8) (w : World) (h0 : InST w B A n xs) (h0' : InST w B' A' n xs) (hB : B ≤ w.heap.size) (hB' : B' ≤ w.heap.size) (hn : n ≤ 1048576) (he : totS xs ≤ 1048576) :
    Calls Tryz.prog 43 #[.slice A n c, .slice A' n c'] w fun e w' => e = .returned (.bool true) ∧ Below w.heap.size w w' := by
  have h : InST w w.heap.size A n xs := ⟨h0.1, fun j x hj => by
    obtain ⟨b, off, e, hlt, As, ns, cs, Ai, ni, ci, Af, nf, cf, q0, q1, q2, q3, q4, q5, q6, q7, k1, k2, k3⟩ := h0.2 j x hj
    exact ⟨b, off, e, by omega, As, ns, cs, Ai, ni, ci, Af, nf, cf, q0, q1, q2, q3, q4, q5, q6, q7, k1.more hB, k2.more hB, k3.more hB⟩⟩
  have h' : InST w w.heap.size A' n xs := ⟨h0'.1, fun j x hj => by
    obtain ⟨b, off, e, hlt, As, ns, cs, Ai, ni, ci, Af, nf, cf, q0, q1, q2, q3, q4, q5, q6, q7, k1, k2, k3⟩ := h0'.2 j x hj
    exact ⟨b, off, e, by omega, As, ns, cs, Ai, ni, ci, Af, nf, cf, q0, q1, q2, q3, q4, q5, q6, q7, k1.more hB', k2.more hB', k3.more hB'⟩⟩
  clear h0 h0'
  go_enter Tryz.func43, Tryz.ntmps43
  go_wp2_with fail
  go_loopw [5] (fun i wr => ∃ k : Nat, k ≤ n ∧ i = .int .i64 k ∧ Below w.heap.size w wr) (fun i _ => n - (intOf i).toNat)
  case atStart => exact ⟨0, Nat.zero_le _, rfl, Below.refl _ _⟩
  case round =>
    obtain ⟨k, hk, rfl, hbel⟩ := hrel
    have hsz := hbel.size
    by_cases hlt : k < n
    · obtain ⟨b, off, x, rfl, hb, ht, As, ns, cs, Ai, ni, ci, Af, nf, cf, q0, q1, q2, q3, q4, q5, q6, q7, k1, k2, k3⟩ := (h.next hbel (Nat.le_refl _)).at_ hlt
      obtain ⟨b', off', x', rfl, hb', ht', Bs, ms, ds, Bi, mi, di, Bf, mf, df, p0, p1, p2, p3, p4, p5, p6, p7, g1, g2, g3⟩ := (h'.next hbel (Nat.le_refl _)).at_ hlt
      obtain rfl : x = x' := by rw [ht] at ht'; exact Option.some.inj ht'
      obtain rfl : ns = ms := k1.1.symm.trans g1.1
      obtain rfl : ni = mi := k2.1.symm.trans g2.1
      obtain rfl : nf = mf := k3.1.symm.trans g3.1
      have hmx := totS_mem (List.mem_of_getElem? ht)
      unfold S8.tot at hmx
      rw [k1.1, k2.1, k3.1] at hmx
      have HE := Lib.hid (eqStmt_k x As ns cs Ai ni ci Af nf cf Bs ds Bi di Bf df w.heap.size wr.drew k1.drew k2.drew k3.drew g1.drew g2.drew g3.drew hsz (by omega) (by omega) (by omega) (by omega))
      unfold S8.val at HE
      have i1 : (k : Int) < (n : Int) := by omega
      clear ht ht' k1 k2 k3 g1 g2 g3
      go_wp2_with fail
      go_region_held3 (fun w' => w'.cell? ⟨b, off + k * 8, none⟩ = some (.int .i64 x.k) ∧ w'.cell? ⟨b, off + k * 8 + 1, none⟩ = some (.int .i64 x.v) ∧ w'.cell? ⟨b, off + k * 8 + 2, none⟩ = some (.int .i64 x.e) ∧ w'.cell? ⟨b, off + k * 8 + 3, none⟩ = some (.int .i64 x.s.1) ∧ w'.cell? ⟨b, off + k * 8 + 4, none⟩ = some (.slice As ns cs) ∧ w'.cell? ⟨b, off + k * 8 + 5, none⟩ = some (.int .i64 x.i.1) ∧ w'.cell? ⟨b, off + k * 8 + 6, none⟩ = some (.slice Ai ni ci) ∧ w'.cell? ⟨b, off + k * 8 + 7, none⟩ = some (.slice Af nf cf) ∧
        w'.cell? ⟨b', off' + k * 8, none⟩ = some (.int .i64 x.k) ∧ w'.cell? ⟨b', off' + k * 8 + 1, none⟩ = some (.int .i64 x.v) ∧ w'.cell? ⟨b', off' + k * 8 + 2, none⟩ = some (.int .i64 x.e) ∧ w'.cell? ⟨b', off' + k * 8 + 3, none⟩ = some (.int .i64 x.s.1) ∧ w'.cell? ⟨b', off' + k * 8 + 4, none⟩ = some (.slice Bs ns ds) ∧ w'.cell? ⟨b', off' + k * 8 + 5, none⟩ = some (.int .i64 x.i.1) ∧ w'.cell? ⟨b', off' + k * 8 + 6, none⟩ = some (.slice Bi ni di) ∧ w'.cell? ⟨b', off' + k * 8 + 7, none⟩ = some (.slice Bf nf df))
        (first | go_keep | exact ⟨cell_on q0 hb9, cell_on q1 hb9, cell_on q2 hb9, cell_on q3 hb9, cell_on q4 hb9, cell_on q5 hb9, cell_on q6 hb9, cell_on q7 hb9, cell_on p0 hb9, cell_on p1 hb9, cell_on p2 hb9, cell_on p3 hb9, cell_on p4 hb9, cell_on p5 hb9, cell_on p6 hb9, cell_on p7 hb9⟩)
        (first | (go_at_call 79; refine HE.out.mono ?_; rintro e w9 ⟨rfl, hb9⟩))
      go_wp2_with fail
      go_roundw
      case rel => exact ⟨k + 1, by omega, by go_num, hbel.trans ((bstep hb9).mono hsz)⟩
      case measure => simp [intOf]; omega
    · go_wp2_with fail
      go_ret
      exact ⟨rfl, hbel⟩

set_option maxRecDepth 100000 in
set_option maxHeartbeats 4000000 in
theorem toStmt_k (x : S8) (As : Option Addr) (ns c1 : Nat) (Ai : Option Addr) (ni c2 : Nat) (Af : Option Addr) (nf c3 B : Nat) (w : World) (hs : InL w B As ns x.s.2) (hi : InL w B Ai ni x.i.2) (hf : InTS w B Af nf x.f) (hB : B ≤ w.heap.size) (hn1 : ns ≤ 1048576) (hn2 : ni ≤ 1048576) (hn3 : nf ≤ 1048576) (hn4 : totT x.f ≤ 1048576) :
    Calls Tryz.prog 74 #[.agg (x.val As ns c1 Ai ni c2 Af nf c3)] w fun e w' => ∃ g1 g2 g3, e = .returned (.agg (x.val (some ⟨g1, 0, none⟩) ns ns (some ⟨g2, 0, none⟩) ni ni (some ⟨g3, 0, none⟩) nf nf)) ∧
      OwnL w' w.heap.size w'.heap.size (some ⟨g1, 0, none⟩) ns ns x.s.2 ∧ OwnL w' w.heap.size w'.heap.size (some ⟨g2, 0, none⟩) ni ni x.i.2 ∧ OwnTS w' w.heap.size w'.heap.size (some ⟨g3, 0, none⟩) nf nf x.f ∧ Below w.heap.size w w' := by
  have hb0 : Below w.heap.size w (((w.alloc (.cells #[.int .i64 x.k, .int .i64 x.v, .int .i64 x.e, .int .i64 x.s.1, .slice As ns c1, .int .i64 x.i.1, .slice Ai ni c2, .slice Af nf c3] 109)).alloc (.cells #[.int .i64 0, .int .i64 0, .int .i64 0, .int .i64 0, .slice none 0 0, .int .i64 0, .slice none 0 0, .slice none 0 0] 83)).alloc (.cells #[.int .i64 x.k, .int .i64 x.v, .int .i64 x.e, .int .i64 0, .slice none 0 0, .int .i64 0, .slice none 0 0, .slice none 0 0] 83)) := bon (bon (bnew _ _) (bnew _ _)) (bnew _ _)
  have hsz : (((w.alloc (.cells #[.int .i64 x.k, .int .i64 x.v, .int .i64 x.e, .int .i64 x.s.1, .slice As ns c1, .int .i64 x.i.1, .slice Ai ni c2, .slice Af nf c3] 109)).alloc (.cells #[.int .i64 0, .int .i64 0, .int .i64 0, .int .i64 0, .slice none 0 0, .int .i64 0, .slice none 0 0, .slice none 0 0] 83)).alloc (.cells #[.int .i64 x.k, .int .i64 x.v, .int .i64 x.e, .int .i64 0, .slice none 0 0, .int .i64 0, .slice none 0 0, .slice none 0 0] 83)).heap.size = w.heap.size + 3 := by simp
  have hP : BlkIs (((w.alloc (.cells #[.int .i64 x.k, .int .i64 x.v, .int .i64 x.e, .int .i64 x.s.1, .slice As ns c1, .int .i64 x.i.1, .slice Ai ni c2, .slice Af nf c3] 109)).alloc (.cells #[.int .i64 0, .int .i64 0, .int .i64 0, .int .i64 0, .slice none 0 0, .int .i64 0, .slice none 0 0, .slice none 0 0] 83)).alloc (.cells #[.int .i64 x.k, .int .i64 x.v, .int .i64 x.e, .int .i64 0, .slice none 0 0, .int .i64 0, .slice none 0 0, .slice none 0 0] 83)) w.heap.size 109 #[.int .i64 x.k, .int .i64 x.v, .int .i64 x.e, .int .i64 x.s.1, .slice As ns c1, .int .i64 x.i.1, .slice Ai ni c2, .slice Af nf c3] := ((blk_new w _ _ _ rfl).next (bnew _ _)).next (bnew _ _)
  have hR : BlkIs (((w.alloc (.cells #[.int .i64 x.k, .int .i64 x.v, .int .i64 x.e, .int .i64 x.s.1, .slice As ns c1, .int .i64 x.i.1, .slice Ai ni c2, .slice Af nf c3] 109)).alloc (.cells #[.int .i64 0, .int .i64 0, .int .i64 0, .int .i64 0, .slice none 0 0, .int .i64 0, .slice none 0 0, .slice none 0 0] 83)).alloc (.cells #[.int .i64 x.k, .int .i64 x.v, .int .i64 x.e, .int .i64 0, .slice none 0 0, .int .i64 0, .slice none 0 0, .slice none 0 0] 83)) (w.heap.size + 1) 83 #[.int .i64 0, .int .i64 0, .int .i64 0, .int .i64 0, .slice none 0 0, .int .i64 0, .slice none 0 0, .slice none 0 0] := (blk_new _ _ _ _ (by simp)).next (bnew _ _)
  have hO : BlkIs (((w.alloc (.cells #[.int .i64 x.k, .int .i64 x.v, .int .i64 x.e, .int .i64 x.s.1, .slice As ns c1, .int .i64 x.i.1, .slice Ai ni c2, .slice Af nf c3] 109)).alloc (.cells #[.int .i64 0, .int .i64 0, .int .i64 0, .int .i64 0, .slice none 0 0, .int .i64 0, .slice none 0 0, .slice none 0 0] 83)).alloc (.cells #[.int .i64 x.k, .int .i64 x.v, .int .i64 x.e, .int .i64 0, .slice none 0 0, .int .i64 0, .slice none 0 0, .slice none 0 0] 83)) (w.heap.size + 1 + 1) 83 #[.int .i64 x.k, .int .i64 x.v, .int .i64 x.e, .int .i64 0, .slice none 0 0, .int .i64 0, .slice none 0 0, .slice none 0 0] := blk_new _ _ _ _ (by simp)
  have h1 := Lib.hid (hs.next hb0 hB)
  have h2 := Lib.hid (hi.next hb0 hB)
  have h3 := Lib.hid (hf.next hb0 hB)
  clear hs hi hf
  unfold S8.val
  go_enter Tryz.func74, Tryz.ntmps74
  go_wp2_with fail
  generalize (((w.alloc (.cells #[.int .i64 x.k, .int .i64 x.v, .int .i64 x.e, .int .i64 x.s.1, .slice As ns c1, .int .i64 x.i.1, .slice Ai ni c2, .slice Af nf c3] 109)).alloc (.cells #[.int .i64 0, .int .i64 0, .int .i64 0, .int .i64 0, .slice none 0 0, .int .i64 0, .slice none 0 0, .slice none 0 0] 83)).alloc (.cells #[.int .i64 x.k, .int .i64 x.v, .int .i64 x.e, .int .i64 0, .slice none 0 0, .int .i64 0, .slice none 0 0, .slice none 0 0] 83)) = W at hb0 hsz h1 h2 h3 hP hR hO ⊢
  refine (toTerm_k x.s.1 As ns c1 B x.s.2 W h1.out (by omega) hn1).mono ?_
  rintro e w1 ⟨a1, rfl, ho1, hb1⟩
  have hs1 := hb1.size
  have hP1 := hP.next hb1
  have hR1 := hR.next hb1
  have hO1 := hO.next hb1
  have p5 := hP1.cell 5
  have p6 := hP1.cell 6
  have o3 := hO1.cell 3
  have o4 := hO1.cell 4
  have f3 := hO1.frozen 3
  have f4 := hO1.frozen 4
  simp at p5 p6 o3 o4
  go_wp2_with fail
  have hst : Out (w.heap.size + 1) (w.heap.size + 3) w1 ((w1.setCell ⟨w.heap.size + 1 + 1, 3, none⟩ (.int .i64 x.s.1)).setCell ⟨w.heap.size + 1 + 1, 4, none⟩ (.slice (some ⟨a1, 0, none⟩) ns ns)) := out_set (out_set (Out.refl _ _ _) (by omega)) (by omega)
  have hP2 := (hP1.far (g' := w.heap.size + 1 + 1) (by omega) 3 (.int .i64 x.s.1)).far (g' := w.heap.size + 1 + 1) (by omega) 4 (.slice (some ⟨a1, 0, none⟩) ns ns)
  have hR2 := (hR1.far (g' := w.heap.size + 1 + 1) (by omega) 3 (.int .i64 x.s.1)).far (g' := w.heap.size + 1 + 1) (by omega) 4 (.slice (some ⟨a1, 0, none⟩) ns ns)
  have hO2 := (hO1.set 3 (.int .i64 x.s.1)).set 4 (.slice (some ⟨a1, 0, none⟩) ns ns)
  simp at hO2
  have hb11 := hb0.trans (hb1.mono (by omega))
  have h21 := Lib.hid ((h2.out.next hb1 (by omega)).next (hst.below (by omega) (by omega)) hB)
  have h31 := Lib.hid ((h3.out.next hb1 (by omega)).next (hst.below (by omega) (by omega)) hB)
  clear p5 p6 o3 o4 f3 f4 h2 h3 hP1 hR1 hO1 hP hR hO
  generalize (w1.setCell ⟨w.heap.size + 1 + 1, 3, none⟩ (.int .i64 x.s.1)).setCell ⟨w.heap.size + 1 + 1, 4, none⟩ (.slice (some ⟨a1, 0, none⟩) ns ns) = w2 at hst hP2 hR2 hO2 h21 h31 ⊢
  have hs2 := hst.size
  have ho2 := ho1.out hst (by omega)
  have hb2 : Below w.heap.size w w2 := hb11.trans (hst.below (by omega) (by omega))
  refine (toTerm_k x.i.1 Ai ni c2 B x.i.2 w2 h21.out (by omega) hn2).mono ?_
  rintro e w3 ⟨a2, rfl, hi3, hb3⟩
  have hs3 := hb3.size
  have hP3 := hP2.next hb3
  have hR3 := hR2.next hb3
  have hO3 := hO2.next hb3
  have p7 := hP3.cell 7
  have o5 := hO3.cell 5
  have o6 := hO3.cell 6
  have f5 := hO3.frozen 5
  have f6 := hO3.frozen 6
  simp at p7 o5 o6
  go_wp2_with fail
  have hst2 : Out (w.heap.size + 1) (w.heap.size + 3) w3 ((w3.setCell ⟨w.heap.size + 1 + 1, 5, none⟩ (.int .i64 x.i.1)).setCell ⟨w.heap.size + 1 + 1, 6, none⟩ (.slice (some ⟨a2, 0, none⟩) ni ni)) := out_set (out_set (Out.refl _ _ _) (by omega)) (by omega)
  have hP4 := (hP3.far (g' := w.heap.size + 1 + 1) (by omega) 5 (.int .i64 x.i.1)).far (g' := w.heap.size + 1 + 1) (by omega) 6 (.slice (some ⟨a2, 0, none⟩) ni ni)
  have hR4 := (hR3.far (g' := w.heap.size + 1 + 1) (by omega) 5 (.int .i64 x.i.1)).far (g' := w.heap.size + 1 + 1) (by omega) 6 (.slice (some ⟨a2, 0, none⟩) ni ni)
  have hO4 := (hO3.set 5 (.int .i64 x.i.1)).set 6 (.slice (some ⟨a2, 0, none⟩) ni ni)
  simp at hO4
  have ho3 := ho2.next (hb3.mono (by omega))
  have hb33 := hb2.trans (hb3.mono (by omega))
  have h32 := Lib.hid ((h31.out.next hb3 (by omega)).next (hst2.below (by omega) (by omega)) hB)
  clear p7 o5 o6 f5 f6 h31 hP3 hR3 hO3 hP2 hR2 hO2
  generalize (w3.setCell ⟨w.heap.size + 1 + 1, 5, none⟩ (.int .i64 x.i.1)).setCell ⟨w.heap.size + 1 + 1, 6, none⟩ (.slice (some ⟨a2, 0, none⟩) ni ni) = w4 at hst2 hP4 hR4 hO4 h32 ⊢
  have hs4 := hst2.size
  have ho4 := ho3.out hst2 (by omega)
  have hi4 := hi3.out hst2 (by omega)
  have hb4 : Below w.heap.size w w4 := hb33.trans (hst2.below (by omega) (by omega))
  refine (toTermS_k Af nf c3 B x.f w4 h32.out (by omega) hn3 hn4).mono ?_
  rintro e w5 ⟨a3, rfl, hf5, hb5⟩
  have hs5 := hb5.size
  have hR5 := hR4.next hb5
  have hO5 := hO4.next hb5
  have hb55 := hb4.trans (hb5.mono (by omega))
  have ho5 := ho4.next hb5
  have hi5 := hi4.next hb5
  have q0 := hO5.cell 0
  have q1 := hO5.cell 1
  have q2 := hO5.cell 2
  have q3 := hO5.cell 3
  have q4 := hO5.cell 4
  have q5 := hO5.cell 5
  have q6 := hO5.cell 6
  have q7 := hO5.cell 7
  have k7 := hO5.frozen 7
  have r0 := hR5.cell 0
  have r1 := hR5.cell 1
  have r2 := hR5.cell 2
  have r3 := hR5.cell 3
  have r4 := hR5.cell 4
  have r5 := hR5.cell 5
  have r6 := hR5.cell 6
  have r7 := hR5.cell 7
  have m0 := hR5.frozen 0
  have m1 := hR5.frozen 1
  have m2 := hR5.frozen 2
  have m3 := hR5.frozen 3
  have m4 := hR5.frozen 4
  have m5 := hR5.frozen 5
  have m6 := hR5.frozen 6
  have m7 := hR5.frozen 7
  simp at q0 q1 q2 q3 q4 q5 q6 q7 r0 r1 r2 r3 r4 r5 r6 r7
  clear hP4 hR4 hO4 hR5 hO5 h1 h21 h32
  go_wp2_with fail
  refine bodyPost_ret (v := .agg #[.int .i64 x.k, .int .i64 x.v, .int .i64 x.e, .int .i64 x.s.1, .slice (some ⟨a1, 0, none⟩) ns ns, .int .i64 x.i.1, .slice (some ⟨a2, 0, none⟩) ni ni, .slice (some ⟨a3, 0, none⟩) nf nf]) (by simp [results, Tryz.results74, go_sem, r0, r1, r2, r3, r4, r5, r6, r7]) rfl ?_
  have ho : Out (w.heap.size + 1) (w.heap.size + 3) w5 (((((((((w5.setCell ⟨w.heap.size + 1 + 1, 7, none⟩ (.slice (some ⟨a3, 0, none⟩) nf nf)).setCell ⟨w.heap.size + 1, 0, none⟩ (.int .i64 x.k)).setCell ⟨w.heap.size + 1, 1, none⟩ (.int .i64 x.v)).setCell ⟨w.heap.size + 1, 2, none⟩ (.int .i64 x.e)).setCell ⟨w.heap.size + 1, 3, none⟩ (.int .i64 x.s.1)).setCell ⟨w.heap.size + 1, 4, none⟩ (.slice (some ⟨a1, 0, none⟩) ns ns)).setCell ⟨w.heap.size + 1, 5, none⟩ (.int .i64 x.i.1)).setCell ⟨w.heap.size + 1, 6, none⟩ (.slice (some ⟨a2, 0, none⟩) ni ni)).setCell ⟨w.heap.size + 1, 7, none⟩ (.slice (some ⟨a3, 0, none⟩) nf nf)) :=
    out_set (out_set (out_set (out_set (out_set (out_set (out_set (out_set (out_set (Out.refl _ _ _) (by omega)) (by omega)) (by omega)) (by omega)) (by omega)) (by omega)) (by omega)) (by omega)) (by omega)
  have hso := ho.size
  exact ⟨a1, a2, a3, rfl, ((ho5.out ho (by omega)).less (by omega)).wide (by omega) (Nat.le_refl _), ((hi5.out ho (by omega)).less (by omega)).wide (by omega) (Nat.le_refl _), ((hf5.out ho (by omega)).less (by omega)).wide (by omega) (Nat.le_refl _), hb55.trans (ho.below (by omega) (by omega))⟩

theorem infoStmt : (Tryz.prog.info? 83).map (fun i => (i.zero, i.size, i.bytes)) = some (some (.agg #[.int .i64 0, .int .i64 0, .int .i64 0, .int .i64 0, .slice none 0 0, .int .i64 0, .slice none 0 0, .slice none 0 0]), 8, 112) := by kernel_rfl
/-- What the copy holds when k elements have been laid. -/
def LaidS (wr : World) (B n k : Nat) (ts : List S8) : Prop :=
  ∃ xs : List Value, wr.ownsRow B 83 8 (.slice (some ⟨B, 0, none⟩) n n) n xs ∧
    ∀ j, j < k → ∀ t, ts[j]? = some t → ∃ As ns cs Ai ni ci Af nf cf, (xs[j * 8]? = some (.int .i64 t.k) ∧ xs[j * 8 + 1]? = some (.int .i64 t.v) ∧ xs[j * 8 + 2]? = some (.int .i64 t.e) ∧ xs[j * 8 + 3]? = some (.int .i64 t.s.1) ∧ xs[j * 8 + 4]? = some (.slice As ns cs) ∧ xs[j * 8 + 5]? = some (.int .i64 t.i.1) ∧ xs[j * 8 + 6]? = some (.slice Ai ni ci) ∧ xs[j * 8 + 7]? = some (.slice Af nf cf)) ∧
      OwnL wr (B + 1) wr.heap.size As ns cs t.s.2 ∧ OwnL wr (B + 1) wr.heap.size Ai ni ci t.i.2 ∧ OwnTS wr (B + 1) wr.heap.size Af nf cf t.f
theorem laidS_end {wr : World} {B n : Nat} {ts : List S8} (h : LaidS wr B n n ts) (hl : ts.length = n) (hB : B < wr.heap.size) : InST wr wr.heap.size (some ⟨B, 0, none⟩) n ts := by
  obtain ⟨xs, h1, h2⟩ := h
  refine ⟨hl, fun j t hj => ?_⟩
  have hjl : j < ts.length := (List.getElem?_eq_some_iff.1 hj).1
  obtain ⟨As, ns, cs, Ai, ni, ci, Af, nf, cf, ⟨q0, q1, q2, q3, q4, q5, q6, q7⟩, k1, k2, k3⟩ := h2 j (by omega) t hj
  refine ⟨B, 0, rfl, hB, As, ns, cs, Ai, ni, ci, Af, nf, cf, ?_, ?_, ?_, ?_, ?_, ?_, ?_, ?_, k1.all, k2.all, k3.all⟩ <;> rw [Nat.zero_add]
  · exact (h1.cellAt (j * 8) (by omega)).trans q0
  · exact (h1.cellAt (j * 8 + 1) (by omega)).trans q1
  · exact (h1.cellAt (j * 8 + 2) (by omega)).trans q2
  · exact (h1.cellAt (j * 8 + 3) (by omega)).trans q3
  · exact (h1.cellAt (j * 8 + 4) (by omega)).trans q4
  · exact (h1.cellAt (j * 8 + 5) (by omega)).trans q5
  · exact (h1.cellAt (j * 8 + 6) (by omega)).trans q6
  · exact (h1.cellAt (j * 8 + 7) (by omega)).trans q7
theorem laidS_step {wr w1 : World} {B n k : Nat} {ts : List S8} {t : S8} {As : Option Addr} {ns cs : Nat} {Ai : Option Addr} {ni ci : Nat} {Af : Option Addr} {nf cf : Nat} (h : LaidS wr B n k ts) (ht : ts[k]? = some t) (hk : k < n) (hB : B < wr.heap.size)
    (hb : Below wr.heap.size wr w1) (o1 : OwnL w1 wr.heap.size w1.heap.size As ns cs t.s.2) (o2 : OwnL w1 wr.heap.size w1.heap.size Ai ni ci t.i.2) (o3 : OwnTS w1 wr.heap.size w1.heap.size Af nf cf t.f) :
    LaidS ((((((((w1.setCell ⟨B, k * 8, none⟩ (.int .i64 t.k)).setCell ⟨B, k * 8 + 1, none⟩ (.int .i64 t.v)).setCell ⟨B, k * 8 + 2, none⟩ (.int .i64 t.e)).setCell ⟨B, k * 8 + 3, none⟩ (.int .i64 t.s.1)).setCell ⟨B, k * 8 + 4, none⟩ (.slice As ns cs)).setCell ⟨B, k * 8 + 5, none⟩ (.int .i64 t.i.1)).setCell ⟨B, k * 8 + 6, none⟩ (.slice Ai ni ci)).setCell ⟨B, k * 8 + 7, none⟩ (.slice Af nf cf)) B n (k + 1) ts := by
  obtain ⟨xs, h1, h2⟩ := h
  have h1' := own_below h1 hb
  have s0 := (h1'.stored (k * 8) (.int .i64 t.k)).1
  have s1 := (s0.stored (k * 8 + 1) (.int .i64 t.v)).1
  have s2 := (s1.stored (k * 8 + 2) (.int .i64 t.e)).1
  have s3 := (s2.stored (k * 8 + 3) (.int .i64 t.s.1)).1
  have s4 := (s3.stored (k * 8 + 4) (.slice As ns cs)).1
  have s5 := (s4.stored (k * 8 + 5) (.int .i64 t.i.1)).1
  have s6 := (s5.stored (k * 8 + 6) (.slice Ai ni ci)).1
  have s7 := (s6.stored (k * 8 + 7) (.slice Af nf cf)).1
  have hxl : xs.length = n * 8 := h1.1
  have ho : Out B (B + 1) w1 ((((((((w1.setCell ⟨B, k * 8, none⟩ (.int .i64 t.k)).setCell ⟨B, k * 8 + 1, none⟩ (.int .i64 t.v)).setCell ⟨B, k * 8 + 2, none⟩ (.int .i64 t.e)).setCell ⟨B, k * 8 + 3, none⟩ (.int .i64 t.s.1)).setCell ⟨B, k * 8 + 4, none⟩ (.slice As ns cs)).setCell ⟨B, k * 8 + 5, none⟩ (.int .i64 t.i.1)).setCell ⟨B, k * 8 + 6, none⟩ (.slice Ai ni ci)).setCell ⟨B, k * 8 + 7, none⟩ (.slice Af nf cf)) := out_set (out_set (out_set (out_set (out_set (out_set (out_set (out_set (Out.refl _ _ _) (by omega)) (by omega)) (by omega)) (by omega)) (by omega)) (by omega)) (by omega)) (by omega)
  generalize ((((((((w1.setCell ⟨B, k * 8, none⟩ (.int .i64 t.k)).setCell ⟨B, k * 8 + 1, none⟩ (.int .i64 t.v)).setCell ⟨B, k * 8 + 2, none⟩ (.int .i64 t.e)).setCell ⟨B, k * 8 + 3, none⟩ (.int .i64 t.s.1)).setCell ⟨B, k * 8 + 4, none⟩ (.slice As ns cs)).setCell ⟨B, k * 8 + 5, none⟩ (.int .i64 t.i.1)).setCell ⟨B, k * 8 + 6, none⟩ (.slice Ai ni ci)).setCell ⟨B, k * 8 + 7, none⟩ (.slice Af nf cf)) = w9 at s7 ho ⊢
  clear s0 s1 s2 s3 s4 s5 s6
  have hos := ho.size
  have hbs := hb.size
  refine ⟨_, s7, fun j hj u hu => ?_⟩
  by_cases e1 : j = k
  · subst e1
    rw [ht] at hu
    obtain rfl := Option.some.inj hu
    refine ⟨As, ns, cs, Ai, ni, ci, Af, nf, cf, ⟨?_, ?_, ?_, ?_, ?_, ?_, ?_, ?_⟩, ((o1.out ho (by omega)).less (by omega)).wide hos (Nat.le_refl _), ((o2.out ho (by omega)).less (by omega)).wide hos (Nat.le_refl _), ((o3.out ho (by omega)).less (by omega)).wide hos (Nat.le_refl _)⟩
    · rw [List.getElem?_set_ne (by omega), List.getElem?_set_ne (by omega), List.getElem?_set_ne (by omega), List.getElem?_set_ne (by omega), List.getElem?_set_ne (by omega), List.getElem?_set_ne (by omega), List.getElem?_set_ne (by omega), List.getElem?_set_self (by (try simp only [List.length_set]); omega)]
    · rw [List.getElem?_set_ne (by omega), List.getElem?_set_ne (by omega), List.getElem?_set_ne (by omega), List.getElem?_set_ne (by omega), List.getElem?_set_ne (by omega), List.getElem?_set_ne (by omega), List.getElem?_set_self (by (try simp only [List.length_set]); omega)]
    · rw [List.getElem?_set_ne (by omega), List.getElem?_set_ne (by omega), List.getElem?_set_ne (by omega), List.getElem?_set_ne (by omega), List.getElem?_set_ne (by omega), List.getElem?_set_self (by (try simp only [List.length_set]); omega)]
    · rw [List.getElem?_set_ne (by omega), List.getElem?_set_ne (by omega), List.getElem?_set_ne (by omega), List.getElem?_set_ne (by omega), List.getElem?_set_self (by (try simp only [List.length_set]); omega)]
    · rw [List.getElem?_set_ne (by omega), List.getElem?_set_ne (by omega), List.getElem?_set_ne (by omega), List.getElem?_set_self (by (try simp only [List.length_set]); omega)]
    · rw [List.getElem?_set_ne (by omega), List.getElem?_set_ne (by omega), List.getElem?_set_self (by (try simp only [List.length_set]); omega)]
    · rw [List.getElem?_set_ne (by omega), List.getElem?_set_self (by (try simp only [List.length_set]); omega)]
    · rw [List.getElem?_set_self (by (try simp only [List.length_set]); omega)]
  · obtain ⟨As', ns', cs', Ai', ni', ci', Af', nf', cf', ⟨q0, q1, q2, q3, q4, q5, q6, q7⟩, k1, k2, k3⟩ := h2 j (by omega) u hu
    refine ⟨As', ns', cs', Ai', ni', ci', Af', nf', cf', ⟨?_, ?_, ?_, ?_, ?_, ?_, ?_, ?_⟩, ((k1.next hb).out ho (by omega)).wide (by omega) (Nat.le_refl _), ((k2.next hb).out ho (by omega)).wide (by omega) (Nat.le_refl _), ((k3.next hb).out ho (by omega)).wide (by omega) (Nat.le_refl _)⟩
    · rw [List.getElem?_set_ne (by omega), List.getElem?_set_ne (by omega), List.getElem?_set_ne (by omega), List.getElem?_set_ne (by omega), List.getElem?_set_ne (by omega), List.getElem?_set_ne (by omega), List.getElem?_set_ne (by omega), List.getElem?_set_ne (by omega)]; exact q0
    · rw [List.getElem?_set_ne (by omega), List.getElem?_set_ne (by omega), List.getElem?_set_ne (by omega), List.getElem?_set_ne (by omega), List.getElem?_set_ne (by omega), List.getElem?_set_ne (by omega), List.getElem?_set_ne (by omega), List.getElem?_set_ne (by omega)]; exact q1
    · rw [List.getElem?_set_ne (by omega), List.getElem?_set_ne (by omega), List.getElem?_set_ne (by omega), List.getElem?_set_ne (by omega), List.getElem?_set_ne (by omega), List.getElem?_set_ne (by omega), List.getElem?_set_ne (by omega), List.getElem?_set_ne (by omega)]; exact q2
    · rw [List.getElem?_set_ne (by omega), List.getElem?_set_ne (by omega), List.getElem?_set_ne (by omega), List.getElem?_set_ne (by omega), List.getElem?_set_ne (by omega), List.getElem?_set_ne (by omega), List.getElem?_set_ne (by omega), List.getElem?_set_ne (by omega)]; exact q3
    · rw [List.getElem?_set_ne (by omega), List.getElem?_set_ne (by omega), List.getElem?_set_ne (by omega), List.getElem?_set_ne (by omega), List.getElem?_set_ne (by omega), List.getElem?_set_ne (by omega), List.getElem?_set_ne (by omega), List.getElem?_set_ne (by omega)]; exact q4
    · rw [List.getElem?_set_ne (by omega), List.getElem?_set_ne (by omega), List.getElem?_set_ne (by omega), List.getElem?_set_ne (by omega), List.getElem?_set_ne (by omega), List.getElem?_set_ne (by omega), List.getElem?_set_ne (by omega), List.getElem?_set_ne (by omega)]; exact q5
    · rw [List.getElem?_set_ne (by omega), List.getElem?_set_ne (by omega), List.getElem?_set_ne (by omega), List.getElem?_set_ne (by omega), List.getElem?_set_ne (by omega), List.getElem?_set_ne (by omega), List.getElem?_set_ne (by omega), List.getElem?_set_ne (by omega)]; exact q6
    · rw [List.getElem?_set_ne (by omega), List.getElem?_set_ne (by omega), List.getElem?_set_ne (by omega), List.getElem?_set_ne (by omega), List.getElem?_set_ne (by omega), List.getElem?_set_ne (by omega), List.getElem?_set_ne (by omega), List.getElem?_set_ne (by omega)]; exact q7

set_option maxRecDepth 100000 in
set_option maxHeartbeats 4000000 in
theorem toStmtS_k (A : Option Addr) (n c B : Nat) (ts : List S8) (w : World) (h : InST w B A n ts) (hB : B ≤ w.heap.size) (hn : n ≤ 1048576) (he : totS ts ≤ 1048576) :
    Calls Tryz.prog 39 #[.slice A n c] w fun e w' => ∃ g, e = .returned (.slice (some ⟨g, 0, none⟩) n n) ∧ InST w' w'.heap.size (some ⟨g, 0, none⟩) n ts ∧ w.heap.size ≤ g ∧ Below w.heap.size w w' := by
  obtain ⟨i0, hi, hz0, hz1, hz2⟩ := info_parts infoStmt
  go_enter Tryz.func39, Tryz.ntmps39
  go_wp2_with (at_make; refine wpList_make_full _ rfl _ _ 35 rfl w.heap.size 83 i0 (.agg #[.int .i64 0, .int .i64 0, .int .i64 0, .int .i64 0, .slice none 0 0, .int .i64 0, .slice none 0 0, .slice none 0 0]) 8 Tryz.underlying35 hi hz0 hz1 .i64 .i64 _ _ n rfl rfl rfl rfl (by rw [hz2]; omega) (by unfold maxLen; omega) (Nat.le_refl _) ?_; intro w1 hown hgrow)
  have hb1 := (Below.refl w.heap.size w).grown hgrow (Nat.le_refl _) (fun _ h => by cases h)
  have hlt0 : w.heap.size < w1.heap.size := (hown.lt w.heap.size rfl).2
  have hl0 : LaidS w1 w.heap.size n 0 ts := ⟨_, hown, fun j hj => by omega⟩
  clear hgrow hown
  go_loopw [4] (fun i wr => ∃ k : Nat, k ≤ n ∧ i = .int .i64 k ∧ LaidS wr w.heap.size n k ts ∧ w.heap.size < wr.heap.size ∧ Below w.heap.size w wr) (fun i _ => n - (intOf i).toNat)
  case atStart => exact ⟨0, Nat.zero_le _, rfl, hl0, hlt0, hb1⟩
  case round =>
    clear hl0 hlt0 hb1
    obtain ⟨k, hk, rfl, hl, hlt0, hbel⟩ := hrel
    by_cases hlt : k < n
    · obtain ⟨b, off, t, rfl, hb, ht, As, ns, cs, Ai, ni, ci, Af, nf, cf, q0, q1, q2, q3, q4, q5, q6, q7, k1, k2, k3⟩ := (h.next hbel hB).at_ hlt
      have hmx := totS_mem (List.mem_of_getElem? ht)
      unfold S8.tot at hmx
      rw [k1.1, k2.1, k3.1] at hmx
      have HI := Lib.hid (toStmt_k t As ns cs Ai ni ci Af nf cf B wr k1 k2 k3 (by omega) (by omega) (by omega) (by omega) (by omega))
      unfold S8.val at HI
      have HT := Lib.hid ht
      clear k1 k2 k3 ht
      go_wp2_with fail
      refine HI.out.mono ?_
      rintro e w2 ⟨g1, g2, g3, rfl, o1, o2, o3, hb2⟩
      have HL := Lib.hid (laidS_step hl HT.out hlt hlt0 hb2 o1 o2 o3)
      have hs2 := hb2.size
      obtain ⟨xs, hox, _⟩ := hl
      have hox2 := own_below hox hb2
      have hxl : xs.length = n * 8 := hox.1
      have c0 := hox2.cellAt (k * 8) (by omega)
      have c1 := hox2.cellAt (k * 8 + 1) (by omega)
      have c2 := hox2.cellAt (k * 8 + 2) (by omega)
      have c3 := hox2.cellAt (k * 8 + 3) (by omega)
      have c4 := hox2.cellAt (k * 8 + 4) (by omega)
      have c5 := hox2.cellAt (k * 8 + 5) (by omega)
      have c6 := hox2.cellAt (k * 8 + 6) (by omega)
      have c7 := hox2.cellAt (k * 8 + 7) (by omega)
      rw [List.getElem?_eq_getElem (by omega)] at c0 c1 c2 c3 c4 c5 c6 c7
      have f0 := hox2.frozenAt (k * 8)
      have f1 := hox2.frozenAt (k * 8 + 1)
      have f2 := hox2.frozenAt (k * 8 + 2)
      have f3 := hox2.frozenAt (k * 8 + 3)
      have f4 := hox2.frozenAt (k * 8 + 4)
      have f5 := hox2.frozenAt (k * 8 + 5)
      have f6 := hox2.frozenAt (k * 8 + 6)
      have f7 := hox2.frozenAt (k * 8 + 7)
      have hb3 := ((((((((hbel.trans (hb2.mono (by omega))).setCell (p := ⟨w.heap.size, k * 8, none⟩) (Nat.le_refl _) (.int .i64 t.k)).setCell (p := ⟨w.heap.size, k * 8 + 1, none⟩) (Nat.le_refl _) (.int .i64 t.v)).setCell (p := ⟨w.heap.size, k * 8 + 2, none⟩) (Nat.le_refl _) (.int .i64 t.e)).setCell (p := ⟨w.heap.size, k * 8 + 3, none⟩) (Nat.le_refl _) (.int .i64 t.s.1)).setCell (p := ⟨w.heap.size, k * 8 + 4, none⟩) (Nat.le_refl _) (.slice (some ⟨g1, 0, none⟩) ns ns)).setCell (p := ⟨w.heap.size, k * 8 + 5, none⟩) (Nat.le_refl _) (.int .i64 t.i.1)).setCell (p := ⟨w.heap.size, k * 8 + 6, none⟩) (Nat.le_refl _) (.slice (some ⟨g2, 0, none⟩) ni ni)).setCell (p := ⟨w.heap.size, k * 8 + 7, none⟩) (Nat.le_refl _) (.slice (some ⟨g3, 0, none⟩) nf nf)
      clear hox hox2 o1 o2 o3 q0 q1 q2 q3 q4 q5 q6 q7
      go_wp2_with fail
      go_roundw
      case rel => exact ⟨k + 1, by omega, by go_num, HL.out, by simp; omega, hb3⟩
      case measure => simp [intOf]; omega
    · have e : k = n := by omega
      subst e
      go_wp2_with fail
      go_ret
      exact ⟨_, rfl, laidS_end hl h.1 hlt0, Nat.le_refl _, hbel⟩
end Go.Proofs.YtajmbnimdngjhaaGreatDoor
