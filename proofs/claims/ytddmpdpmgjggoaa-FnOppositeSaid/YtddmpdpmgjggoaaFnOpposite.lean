/-
  For all bytes, of the fact and the values that are drawn from them: exactly one of the fact and its opposite holds, and the opposite of the opposite is the fact.
  Conditions: none but those that the statement itself bears.
-/
import Derived.Test.YtddmpdpmgjggoaaRows
import Derived.WalkKit
import Derived.ProofKit
import Derived.OpenShut
import Derived.ShutString
import Derived.ChangeOld
import Derived.Below
import Derived.Test.YtddmpdpmgjggoaaBase
import Derived.Test.YtddmpdpmgjggoaaLawV
import Derived.Test.YtddmpdpmgjggoaaSame
import Derived.Test.YtddmpdpmgjggoaaImplT1
namespace Go.Proofs.Ytddmpdpmgjggoaa.fnOpposite
open Go.ChangeShapes Go.WideShapes Go.ChangeAt Go.RowKit
open Go.ChangeMaps (open_string shut_string)
set_option linter.unusedVariables false

theorem own : ownKnob Try.prog.godebug = none := by kernel_rfl
theorem laidOut : laidOutB Try.prog = true := by kernel_rfl

/-- WHAT THE WALK IS TOLD OF A SLICE OF INTEGERS THAT CAME IN: it is nil; or it leads to a row of 'cap' cells, the numbers 'zs' (the first 'len' are its elements, the rest its spare room), each fitting its kind. -/
def IsRow (k : IntKind) (w : World) (a : Option Addr) (len cap : Nat) (zs : List Int) : Prop :=
  (a = none ∧ len = 0 ∧ cap = 0 ∧ zs = []) ∨
  ∃ x, a = some x ∧ len ≤ cap ∧ cap ≤ maxLen ∧ zs.length = cap ∧ (∀ i, i < zs.length → w.cell? (x.add i) = some (.int k (zs.getD i 0))) ∧ ∀ n ∈ zs, (Lit.int k n).wf = true

theorem IsRow.row {k : IntKind} {w : World} {a : Option Addr} {len cap : Nat} {zs : List Int} (h : IsRow k w a len cap zs) :
    Row w w.heap.size a ((zs.take len).map (Value.int k)) ∧ (zs.take len).length = len ∧ ∀ n ∈ zs.take len, (Lit.int k n).wf = true := by
  rcases h with ⟨rfl, rfl, rfl, rfl⟩ | ⟨x, rfl, hl, _, hz, hcell, hwz⟩
  · exact ⟨Row.nil, rfl, fun n hn => by simp at hn⟩
  · have hlen : (zs.take len).length = len := by rw [List.length_take]; omega
    refine ⟨fun j hj => ?_, hlen, fun n hn => hwz n (List.mem_of_mem_take hn)⟩
    rw [List.length_map, hlen] at hj
    have hc := hcell j (by omega)
    obtain ⟨b, off, spot⟩ := x
    have hspot : spot = none := by simpa [Addr.add] using World.cell?_spot (hcell 0 (by omega))
    subst hspot
    have ha : (⟨b, off, none⟩ : Addr).add j = ⟨b, off + j, none⟩ := by unfold Addr.add; split <;> simp_all
    rw [ha] at hc
    refine ⟨b, off, rfl, cell_lt hc, ?_⟩
    rw [hc, List.getElem?_map, List.getElem?_take, if_pos (by omega), List.getElem?_eq_getElem (by omega)]
    simp [List.getD, List.getElem?_eq_getElem (show j < zs.length by omega)]
theorem same_self {t : Int × List Int} (h : tmB t = true) : sameT t t = true := by rw [sameT_is h h]; exact decide_eq_true rfl
set_option maxRecDepth 100000 in
set_option maxHeartbeats 4000000 in
theorem walk (a0 : Option Addr) (len0 cap0 : Nat) (z0 : List Int) (a1 : Option Addr) (len1 cap1 : Nat) (z1 : List Int) (w : World) (w0 : IsRow .u8 w a0 len0 cap0 z0) (w1 : IsRow .u8 w a1 len1 cap1 z1) :
    Calls Try.prog 4 #[.slice a0 len0 cap0, .slice a1 len1 cap1] w fun e w' => e = .returned (.bool true) ∧ Below w.heap.size w w' := by
  obtain ⟨hrow0, hlen0, hwf0⟩ := w0.row
  obtain ⟨hrow1, hlen1, hwf1⟩ := w1.row
  obtain ⟨bs0, hbs0, hb0⟩ := bytes_of hwf0
  obtain ⟨bs1, hbs1, hb1⟩ := bytes_of hwf1
  rw [hbs0] at hrow0 hlen0
  rw [hbs1] at hrow1 hlen1
  rw [List.map_map] at hrow0 hrow1
  rw [List.length_map] at hlen0 hlen1
  change Row w w.heap.size a0 (bs0.map bc) at hrow0
  change Row w w.heap.size a1 (bs1.map bc) at hrow1
  clear hbs0 hbs1 w0 w1 hwf0 hwf1
  by_cases hl0 : (1048576 : Int) < len0
  · go_enter Try.func4, Try.ntmps4
    go_wp2
    go_ret
    exact ⟨rfl, Below.refl _ _⟩
  by_cases hl1 : (1048576 : Int) < len1
  · go_enter Try.func4, Try.ntmps4
    go_wp2
    go_ret
    exact ⟨rfl, Below.refl _ _⟩
  have HT := Lib.hid (B10Term_c a0 len0 cap0 bs0 w hrow0 hlen0 hb0 (by omega))
  have HR1 := Lib.hid hrow1
  have HB1 := Lib.hid hb1
  clear hrow0 hrow1 hb0 hb1
  go_enter Try.func4, Try.ntmps4
  go_wp2_with (first | (go_at_call 11; go_in))
  refine HT.out.mono ?_
  rintro e v1 ⟨A1, m1, c1, t, rfl, hsm, hown1, hb1⟩
  go_wp2_with fail
  have hbA := bnew v1 (.cells #[.int .i64 t.1, .slice A1 m1 c1] 26)
  have hA : BlkIs (v1.alloc (.cells #[.int .i64 t.1, .slice A1 m1 c1] 26)) v1.heap.size 26 #[.int .i64 t.1, .slice A1 m1 c1] := blk_new _ _ _ _ rfl
  have hown2 := hown1.next hbA
  generalize v1.alloc (.cells #[.int .i64 t.1, .slice A1 m1 c1] 26) = v2 at hbA hA hown2 ⊢
  have hb2 := bon hb1 hbA
  refine (B10Values_c a1 len1 cap1 bs1 v2 ((HR1.out.below hb2 (Nat.le_refl _)).more hb2.size) hlen1 HB1.out (by omega)).mono ?_
  rintro e v3 ⟨gV, cV, vs, rfl, hvl, hvb, hownV, hb3⟩
  have hA3 := hA.next hb3
  have hown3 := hown2.next hb3
  have hb03 := bon hb2 hb3
  have p0 := hA3.cell 0
  have p1 := hA3.cell 1
  simp at p0 p1
  have hvs := valsB_of hvl hvb
  have hti := opp_is hsm.1 (by have := hsm.2.2.1; omega)
  obtain ⟨u, hu⟩ : ∃ u : Int × List Int, u = (-1 - t.1, t.2.map (fun z => -z)) := ⟨_, rfl⟩
  rw [← hu] at hti
  have hui : oppR u = (t, true) := by
    have := opp_is hti.2 (by rw [hu]; show -1 - t.1 ≤ 999999; have := hsm.2.1; omega)
    rw [this.1, hu, opp_opp]
  have hEV : evTo u vs u.2.length = -1 - evTo t vs t.2.length := by
    rw [hu]
    show evTo (-1 - t.1, t.2.map (fun z => -z)) vs (t.2.map (fun z => -z)).length = _
    rw [List.length_map]
    exact ev_opp t vs _
  have ht1 := hsm.1
  have hlt10 := (tmB_parts ht1).1
  have hlu10 := (tmB_parts hti.2).1
  have hO : Calls Try.prog 19 #[.agg #[.int .i64 t.1, .slice A1 m1 c1]] v3 fun e w' => ∃ A k c, e = .returned (.tuple #[.agg #[.int .i64 u.1, .slice A k c], .bool true]) ∧ OwnL w' v3.heap.size w'.heap.size A k c u.2 ∧ Below v3.heap.size v3 w' := by
    have := implOpposite_c t.1 A1 m1 c1 t.2 v3 hown3.all (by have := hown3.1; omega)
    rw [show oppR (t.1, t.2) = (u, true) from hti.1] at this
    exact this
  have HO := Lib.hid hO
  have HUI := Lib.hid hui
  have HTU := Lib.hid hti.2
  have HEV := Lib.hid hEV
  have HVS := Lib.hid hvs
  have HT1 := Lib.hid ht1
  clear hO hu hti hui hEV hvl hvb hvs hsm ht1
  go_wp2_with fail
  refine HO.out.mono ?_
  rintro e v4 ⟨A2, m2, c2, rfl, hown4, hb4⟩
  go_wp2_with fail
  have hA4 := hA3.next hb4
  have hb04 := bon hb03 hb4
  have hbB := bnew v4 (.cells #[.int .i64 u.1, .slice A2 m2 c2] 26)
  have hBB : BlkIs (v4.alloc (.cells #[.int .i64 u.1, .slice A2 m2 c2] 26)) v4.heap.size 26 #[.int .i64 u.1, .slice A2 m2 c2] := blk_new _ _ _ _ rfl
  have hown5 := hown4.next hbB
  have hownA5 := (hown3.next hb4).next hbB
  have hownV5 := (hownV.next hb4).next hbB
  have hA5 := hA4.next hbB
  have hb05 := bon hb04 hbB
  clear p0 p1 hown4 hown3 hA4 hA3 hA hown2 hown1 hownV
  generalize v4.alloc (.cells #[.int .i64 u.1, .slice A2 m2 c2] 26) = v5 at hbB hBB hown5 hownA5 hownV5 hA5 hb05 ⊢
  have hO2 : Calls Try.prog 19 #[.agg #[.int .i64 u.1, .slice A2 m2 c2]] v5 fun e w' => ∃ A k c, e = .returned (.tuple #[.agg #[.int .i64 t.1, .slice A k c], .bool true]) ∧ OwnL w' v5.heap.size w'.heap.size A k c t.2 ∧ Below v5.heap.size v5 w' := by
    have := implOpposite_c u.1 A2 m2 c2 u.2 v5 hown5.all (by have := hown5.1; omega)
    rw [show oppR (u.1, u.2) = (t, true) from HUI.out] at this
    exact this
  have HO2 := Lib.hid hO2
  have q0 := hBB.cell 0
  have q1 := hBB.cell 1
  simp at q0 q1
  clear hO2 HO
  refine HO2.out.mono ?_
  rintro e v6 ⟨A3, m3, c3, rfl, hown6, hb6⟩
  go_wp2_with fail
  have hbC := bnew v6 (.cells #[.int .i64 t.1, .slice A3 m3 c3] 26)
  have hC : BlkIs (v6.alloc (.cells #[.int .i64 t.1, .slice A3 m3 c3] 26)) v6.heap.size 26 #[.int .i64 t.1, .slice A3 m3 c3] := blk_new _ _ _ _ rfl
  have oC := hown6.next hbC
  have oB := (hown5.next hb6).next hbC
  have oA := (hownA5.next hb6).next hbC
  have oV := (hownV5.next hb6).next hbC
  have bA := (hA5.next hb6).next hbC
  have bB := (hBB.next hb6).next hbC
  have hb07 := bon (bon hb05 hb6) hbC
  clear q0 q1 hown6 hown5 hownA5 hownV5 hA5 hBB HO2
  generalize v6.alloc (.cells #[.int .i64 t.1, .slice A3 m3 c3] 26) = v7 at hbC hC oC oB oA oV bA bB hb07 ⊢
  have a0 := bA.cell 0
  have a1 := bA.cell 1
  have b0 := bB.cell 0
  have b1 := bB.cell 1
  have d0 := hC.cell 0
  have d1 := hC.cell 1
  simp at a0 a1 b0 b1 d0 d1
  have ss : sameT (t.1, t.2) (t.1, t.2) = true := same_self HT1.out
  have HS : Hid (∀ x, Below v7.drew.heap.size v7.drew x → Calls Try.prog 20 #[.agg #[.int .i64 t.1, .slice A3 m3 c3], .agg #[.int .i64 t.1, .slice A1 m1 c1]] x fun e w' => e = .returned (.bool true) ∧ Below x.heap.size x w') := fun x h => by
    have k := implSame_c t.1 A3 m3 c3 t.2 t.1 A1 m1 c1 t.2 x ((oC.all.call (Nat.le_refl _) h).more (le_call (Nat.le_refl _) h)) (by have := oC.1; omega) ((oA.all.call (Nat.le_refl _) h).more (le_call (Nat.le_refl _) h)) (by have := oA.1; omega)
    rw [ss] at k
    exact k
  have HA : Hid (∀ x, Below v7.drew.heap.size v7.drew x → Calls Try.prog 21 #[.agg #[.int .i64 t.1, .slice A1 m1 c1], .slice (some ⟨gV, 0, none⟩) 10 cV] x fun e w' => e = .returned (.int .i64 (evTo t vs t.2.length)) ∧ Below x.heap.size x w') := fun x h =>
    b10Value_c v7.heap.size t.1 A1 m1 c1 t.2 _ 10 cV vs x (oA.all.call (Nat.le_refl _) h) (oV.all.call (Nat.le_refl _) h) (le_call (Nat.le_refl _) h) HT1.out HVS.out
  have HB : Hid (∀ x, Below v7.drew.heap.size v7.drew x → Calls Try.prog 21 #[.agg #[.int .i64 u.1, .slice A2 m2 c2], .slice (some ⟨gV, 0, none⟩) 10 cV] x fun e w' => e = .returned (.int .i64 (evTo u vs u.2.length)) ∧ Below x.heap.size x w') := fun x h =>
    b10Value_c v7.heap.size u.1 A2 m2 c2 u.2 _ 10 cV vs x (oB.all.call (Nat.le_refl _) h) (oV.all.call (Nat.le_refl _) h) (le_call (Nat.le_refl _) h) HTU.out HVS.out
  have hEV := HEV.out
  generalize evTo t vs t.2.length = E at HA hEV
  generalize evTo u vs u.2.length = F at HB hEV
  clear oA oB oC oV bA bB hC ss
  by_cases hE : 0 ≤ E
  all_goals
    have hF : (0 ≤ F) = (¬ (0 ≤ E)) := by rw [hEV]; exact propext (by omega)
    go_wp2_with fail
    go_region_held3 (fun w' => w'.cell? ⟨v1.heap.size, 0, none⟩ = some (.int .i64 t.1) ∧ w'.cell? ⟨v1.heap.size, 1, none⟩ = some (.slice A1 m1 c1) ∧ w'.cell? ⟨v4.heap.size, 0, none⟩ = some (.int .i64 u.1) ∧ w'.cell? ⟨v4.heap.size, 1, none⟩ = some (.slice A2 m2 c2) ∧ w'.cell? ⟨v6.heap.size, 0, none⟩ = some (.int .i64 t.1) ∧ w'.cell? ⟨v6.heap.size, 1, none⟩ = some (.slice A3 m3 c3))
      (first | go_keep | exact ⟨cell_on a0 (by with_reducible repeat' (first | exact Below.refl _ _ | refine bon ?_ hx1 | refine bon ?_ hx2 | refine bon ?_ hx3 | fail)), cell_on a1 (by with_reducible repeat' (first | exact Below.refl _ _ | refine bon ?_ hx1 | refine bon ?_ hx2 | refine bon ?_ hx3 | fail)), cell_on b0 (by with_reducible repeat' (first | exact Below.refl _ _ | refine bon ?_ hx1 | refine bon ?_ hx2 | refine bon ?_ hx3 | fail)), cell_on b1 (by with_reducible repeat' (first | exact Below.refl _ _ | refine bon ?_ hx1 | refine bon ?_ hx2 | refine bon ?_ hx3 | fail)), cell_on d0 (by with_reducible repeat' (first | exact Below.refl _ _ | refine bon ?_ hx1 | refine bon ?_ hx2 | refine bon ?_ hx3 | fail)), cell_on d1 (by with_reducible repeat' (first | exact Below.refl _ _ | refine bon ?_ hx1 | refine bon ?_ hx2 | refine bon ?_ hx3 | fail))⟩ | fail "none keeps")
      (first | (go_at_call 20; with_reducible refine (HS.out _ (by with_reducible repeat' (first | exact Below.refl _ _ | refine bon ?_ hx2 | refine bon ?_ hx3 | fail))).mono ?_; rintro e y1 ⟨rfl, hx1⟩) | (go_at_call_of 21 A1; with_reducible refine (HA.out _ (by with_reducible repeat' (first | exact Below.refl _ _ | refine bon ?_ hx1 | refine bon ?_ hx3 | fail))).mono ?_; rintro e y2 ⟨rfl, hx2⟩) | (go_at_call_of 21 A2; with_reducible refine (HB.out _ (by with_reducible repeat' (first | exact Below.refl _ _ | refine bon ?_ hx1 | refine bon ?_ hx2 | fail))).mono ?_; rintro e y3 ⟨rfl, hx3⟩) | fail "no arm")
    all_goals
      go_wp2_with fail
      go_ret
      refine ⟨?_, ?_⟩
      · clear hF
        subst hEV
        simp
        omega
      · exact bon hb07 (bstep (by with_reducible repeat' (first | exact Below.refl _ _ | refine bon ?_ hx1 | refine bon ?_ hx2 | refine bon ?_ hx3 | fail)))

set_option maxRecDepth 100000 in
theorem lifted (os : Os) (started : os.Started) (H : Type) (enc : TypeId × Value → H) :
    ReturnsInHanded {} Try.checked os 4 .any (Rows.fnOppositeSpec.pre6 enc Try.prog Try.f4 Rows.fnOppositeRow.domain false) (Rows.fnOppositeSpec.post enc Try.prog Try.f4 false true false false) := by
  refine returnsInHanded_of_change (C := Try.checked) own started (by kernel_rfl) Try.func4
    (ChangeSpec.witness6 (enc := enc) (C := Try.checked) false ⟨#[], #[.slice none 0 0, .slice none 0 0], []⟩ 8 (by kernel_rfl) (by kernel_rfl) (by kernel_rfl) (by kernel_rfl)) ?_
  intro W base args ds gs before hval0 hW hcnd _
  have hval : ∀ (j : Nat) t v, Try.f4.params[j]? = some t → args[j]? = some v → Value.okWide Try.prog W .any base t v := hval0
  have hW' := hW
  obtain ⟨p, q, hA0, hV, rfl, hfz, hnd⟩ := hW
  have hA : DataW.TrodAll enc Try.prog W 0 (fun _ => true) true Try.f4.params.toList args.toList ds p := hA0
  rw [Try.params4] at hA hval
  obtain ⟨v0, vs0, d0, ds0, p0, q0, hargs, rfl, rfl, h0, r0⟩ := trodAll_cons hA
  obtain ⟨v1, vs1, d1, ds1, p1, q1, rfl, rfl, rfl, h1, r1⟩ := trodAll_cons r0
  obtain ⟨rfl, rfl, rfl⟩ := trodAll_nil r1
  obtain rfl : args = #[v0, v1] := by cases args; simp_all
  obtain ⟨rfl, rfl⟩ := trodVars_none hV
  obtain ⟨a0, len0, cap0, rfl⟩ := okWide_slice Try.underlying22 (hval 0 22 v0 rfl rfl)
  have k0 := h0
  have lt0 : ∀ x ∈ p0, x.block < W.heap.size := by obtain ⟨m, hm⟩ := k0; exact DataW.trod_lt m _ _ _ hm
  obtain ⟨z0, w0⟩ : ∃ zs, IsRow .u8 W a0 len0 cap0 zs := by
    obtain ⟨fuel, hf⟩ := h0
    rcases open_ints Try.underlying22 Try.underlying5 (by kernel_rfl) hf with ⟨hcs, _⟩ | ⟨x, l, c, zs, hcs, _, hl, hm, hz, _, hcell, hwz⟩
    · simp [Value.cells] at hcs
      obtain ⟨rfl, rfl, rfl⟩ := hcs
      exact ⟨[], .inl ⟨rfl, rfl, rfl, rfl⟩⟩
    · simp [Value.cells] at hcs
      obtain ⟨rfl, rfl, rfl⟩ := hcs
      exact ⟨zs, .inr ⟨_, rfl, hl, hm, by simpa using hz, hcell, hwz⟩⟩
  obtain ⟨a1, len1, cap1, rfl⟩ := okWide_slice Try.underlying22 (hval 1 22 v1 rfl rfl)
  have k1 := h1
  have lt1 : ∀ x ∈ p1, x.block < W.heap.size := by obtain ⟨m, hm⟩ := k1; exact DataW.trod_lt m _ _ _ hm
  obtain ⟨z1, w1⟩ : ∃ zs, IsRow .u8 W a1 len1 cap1 zs := by
    obtain ⟨fuel, hf⟩ := h1
    rcases open_ints Try.underlying22 Try.underlying5 (by kernel_rfl) hf with ⟨hcs, _⟩ | ⟨x, l, c, zs, hcs, _, hl, hm, hz, _, hcell, hwz⟩
    · simp [Value.cells] at hcs
      obtain ⟨rfl, rfl, rfl⟩ := hcs
      exact ⟨[], .inl ⟨rfl, rfl, rfl, rfl⟩⟩
    · simp [Value.cells] at hcs
      obtain ⟨rfl, rfl, rfl⟩ := hcs
      exact ⟨zs, .inr ⟨_, rfl, hl, hm, by simpa using hz, hcell, hwz⟩⟩
  clear hA0 hval0
  refine (walk a0 len0 cap0 z0 a1 len1 cap1 z1 W w0 w1).mono fun e W' ⟨he, bel⟩ => ?_
  subst he
  exact ⟨_, rfl, _, _, _, [], _, [], hW', trodAll_mk1 (shut_bool Try.underlying4 _), (trodAll_cons_mk (Below.trod laidOut (by kernel_rfl) (of_decide_eq_true (by kernel_rfl)) k0 bel lt0) (trodAll_cons_mk (Below.trod laidOut (by kernel_rfl) (of_decide_eq_true (by kernel_rfl)) k1 bel lt1) trodAll_mk0)), rfl, bel.frame _, fun h => by cases h⟩

theorem over : Rows.fnOppositeRow.holds Try.pinned (OpenSpec.ofChange Rows.fnOppositeSpec) :=
  OpenClaim.holds_of_wide 4 Try.f4 rfl rfl rfl rfl rfl rfl rfl ⟨rfl, rfl, rfl, rfl, rfl⟩ rfl rfl rfl rfl rfl (by kernel_rfl) Try.func4 (by kernel_rfl)
    (of_decide_eq_true (by kernel_rfl)) (by unfold Func.isWrapper; first | (rw [if_pos (by decide +kernel)]; kernel_rfl) | (rw [if_neg (by decide +kernel)]; exact ⟨rfl, rfl⟩))
    (fun os started H enc _ => lifted os started H enc)

/-- The statement. -/
theorem proved : Rows.FnOppositeSaid := over
#print axioms proved
end Go.Proofs.Ytddmpdpmgjggoaa.fnOpposite
