/-
  For all bytes, of the facts and the values that are drawn from them: a combination of the facts has for the values the combination of their numbers, and is at least 0 if all of them are.
  Conditions: none but those that the statement itself bears.
-/
import Derived.Test.YtddmpdpmgjggoaaRows
import Derived.WalkKit
import Derived.ProofKit
import Derived.OpenShut
import Derived.ShutString
import Derived.ChangeOld
import Derived.Below
import Derived.Test.YtddmpdpmgjggoaaBase
import Derived.Test.YtddmpdpmgjggoaaLawC
import Derived.Test.YtddmpdpmgjggoaaCombI
namespace Go.Proofs.Ytddmpdpmgjggoaa.fnCombined
open Go.ChangeShapes Go.WideShapes Go.ChangeAt Go.RowKit
open Go.ChangeMaps (open_string shut_string)
set_option linter.unusedVariables false

theorem own : ownKnob Try.prog.godebug = none := by kernel_rfl
theorem laidOut : laidOutB Try.prog = true := by kernel_rfl

/-- WHAT THE WALK IS TOLD OF A SLICE OF INTEGERS THAT CAME IN: it is nil; or it leads to a row of 'cap' cells, the numbers 'zs' (the first 'len' are its elements, the rest its spare room), each fitting its kind. -/
def IsRow (k : IntKind) (w : World) (a : Option Addr) (len cap : Nat) (zs : List Int) : Prop :=
  (a = none ∧ len = 0 ∧ cap = 0 ∧ zs = []) ∨
  ∃ x, a = some x ∧ len ≤ cap ∧ cap ≤ maxLen ∧ zs.length = cap ∧ (∀ i, i < zs.length → w.cell? (x.add i) = some (.int k (zs.getD i 0))) ∧ ∀ n ∈ zs, (Lit.int k n).wf = true

theorem IsRow.row {k : IntKind} {w : World} {a : Option Addr} {len cap : Nat} {zs : List Int} (h : IsRow k w a len cap zs) :
    Row w w.heap.size a ((zs.take len).map (Value.int k)) ∧ (zs.take len).length = len ∧ ∀ n ∈ zs.take len, (Lit.int k n).wf = true := by
  rcases h with ⟨rfl, rfl, rfl, rfl⟩ | ⟨x, rfl, hl, _, hz, hcell, hwz⟩
  · exact ⟨Row.nil, rfl, fun n hn => by simp at hn⟩
  · have hlen : (zs.take len).length = len := by rw [List.length_take]; omega
    refine ⟨fun j hj => ?_, hlen, fun n hn => hwz n (List.mem_of_mem_take hn)⟩
    rw [List.length_map, hlen] at hj
    have hc := hcell j (by omega)
    obtain ⟨b, off, spot⟩ := x
    have hspot : spot = none := by simpa [Addr.add] using World.cell?_spot (hcell 0 (by omega))
    subst hspot
    have ha : (⟨b, off, none⟩ : Addr).add j = ⟨b, off + j, none⟩ := by unfold Addr.add; split <;> simp_all
    rw [ha] at hc
    refine ⟨b, off, rfl, cell_lt hc, ?_⟩
    rw [hc, List.getElem?_map, List.getElem?_take, if_pos (by omega), List.getElem?_eq_getElem (by omega)]
    simp [List.getD, List.getElem?_eq_getElem (show j < zs.length by omega)]

set_option maxRecDepth 100000 in
set_option maxHeartbeats 4000000 in
theorem walk (a0 : Option Addr) (len0 cap0 : Nat) (z0 : List Int) (a1 : Option Addr) (len1 cap1 : Nat) (z1 : List Int) (w : World) (w0 : IsRow .u8 w a0 len0 cap0 z0) (w1 : IsRow .u8 w a1 len1 cap1 z1) :
    Calls Try.prog 5 #[.slice a0 len0 cap0, .slice a1 len1 cap1] w fun e w' => e = .returned (.bool true) ∧ Below w.heap.size w w' := by
  obtain ⟨i0, hi, hz0, hz1, hzb⟩ := info_parts info64
  obtain ⟨hrow0, hlen0, hwf0⟩ := w0.row
  obtain ⟨hrow1, hlen1, hwf1⟩ := w1.row
  obtain ⟨bs0, hbs0, hb0⟩ := bytes_of hwf0
  obtain ⟨bs1, hbs1, hb1⟩ := bytes_of hwf1
  rw [hbs0] at hrow0 hlen0
  rw [hbs1] at hrow1 hlen1
  rw [List.map_map] at hrow0 hrow1
  rw [List.length_map] at hlen0 hlen1
  change Row w w.heap.size a0 (bs0.map bc) at hrow0
  change Row w w.heap.size a1 (bs1.map bc) at hrow1
  clear hbs0 hbs1 w0 w1 hwf0 hwf1
  by_cases hl0 : (1048576 : Int) < len0
  · go_enter Try.func5, Try.ntmps5
    go_wp2
    go_ret
    exact ⟨rfl, Below.refl _ _⟩
  by_cases hl1 : (1048576 : Int) < len1
  · go_enter Try.func5, Try.ntmps5
    go_wp2
    go_ret
    exact ⟨rfl, Below.refl _ _⟩
  have HR0 := Lib.hid hrow0
  have HR1 := Lib.hid hrow1
  have HB0 := Lib.hid hb0
  have HB1 := Lib.hid hb1
  have hbw := Below.refl w.heap.size w
  clear hrow0 hrow1 hb0 hb1
  go_enter Try.func5, Try.ntmps5
  go_wp2_with (first | (go_at_call 11; go_in))
  refine (B10Facts_c a0 len0 cap0 bs0 w HR0.out hlen0 HB0.out (by omega)).mono ?_
  rintro e v1 ⟨fv, n, ts, rfl, hn5, hFR, hb1⟩
  obtain ⟨Af, cf, rfl, hin⟩ := hFR.inn
  have HSM := Lib.hid hFR.2.1
  have hlt := Lib.hid hFR.1
  clear hFR hbw
  go_wp2_with fail
  refine (B10Values_c a1 len1 cap1 bs1 v1 ((HR1.out.below hb1 (Nat.le_refl _)).more hb1.size) hlen1 HB1.out (by omega)).mono ?_
  rintro e v2 ⟨gV, cV, vs, rfl, hvl, hvb, hoV, hdV⟩
  have HIF := Lib.hid ((hin.next hdV (Nat.le_refl _)).more (B' := v2.heap.size) hdV.size)
  have HIV := Lib.hid hoV.all
  have HVS := Lib.hid (valsB_of hvl hvb)
  have hb2 := bon hb1 hdV
  clear hin hoV hvl hvb hdV hb1
  have hown0 := own_empty v2 2
  have hbe := bnew v2 (.cells #[] 2)
  go_wp2_with fail
  go_loopw [7, 8, 9, 10] (fun tm wt i _ wr => ∃ (k g' c' : Nat) (ks : List Int) (W : Int), k ≤ n ∧ i = .int .i64 k ∧ tm = .slice (some ⟨g', 0, none⟩) k c' ∧ Hid (ks.length = k) ∧ Hid (∀ z ∈ ks, 0 ≤ z ∧ z ≤ 5) ∧ wt = .int .i64 W ∧ Hid (wantTo ts vs ks k = W) ∧ -((k : Int) * 100000000000000000) ≤ W ∧ W ≤ (k : Int) * 100000000000000000 ∧ wr.ownsRow v2.heap.size 2 1 (.slice (some ⟨g', 0, none⟩) k c') k (ks.map ic) ∧ Below v2.heap.size v2 wr) (fun _ _ i _ _ => n - (intOf i).toNat)
  case atStart => exact ⟨0, _, 0, [], 0, Nat.zero_le _, rfl, rfl, rfl, (by intro z hz; simp at hz), rfl, rfl, by omega, by omega, hown0, hbe⟩
  case round =>
    clear hown0 hbe
    obtain ⟨k, g', c', ks, W, hk, rfl, rfl, hkl, hkb, rfl, hW, hW1, hW2, hown, hbel⟩ := hrel
    have hsz := hbel.size
    by_cases hltk : k < n
    · obtain ⟨b, off, A', n', c2, t, rfl, hb, ht, hc0, hc1, hint⟩ := (HIF.out.next hbel (Nat.le_refl _)).at_ hltk
      have hst := HSM.out t (List.mem_of_getElem? ht)
      obtain ⟨x, hx0, hx6, hAt⟩ := b10At6_c a1 len1 cap1 w.heap.size bs1 k wr (HR1.out.below (hb2.trans (hbel.mono hb2.size)) (Nat.le_refl _)) hlen1 HB1.out (by omega)
      have HWN := Lib.hid (want_next (vs := vs) (x := x) hkl.out ht)
      have hEV := ev_le (vs := vs) hst.1 HVS.out
      have hevv : evV vs t = evTo t vs t.2.length := rfl
      rw [hevv, hW.out] at HWN
      have HV := Lib.hid (fun (y : World) (h : Below v2.heap.size wr y) => b10Value_c v2.heap.size t.1 A' n' c2 t.2 (some ⟨gV, 0, none⟩) 10 cV vs y (hint.next h (Nat.le_refl _)) ((HIV.out.next hbel (Nat.le_refl _)).next h (Nat.le_refl _)) (Nat.le_trans hsz h.size) hst.1 HVS.out)
      have et : evTo (t.1, t.2) vs t.2.length = evTo t vs t.2.length := rfl
      rw [et] at HV
      have HKE := Lib.hid (in_ext (x := x) hkb.out hx0 (by omega))
      have HT1 := Lib.hid ht
      clear ht hst hevv et hW hint
      generalize evTo t vs t.2.length = E at HWN HV hEV
      obtain ⟨hE1, hE2⟩ := hEV
      have P := mul_le' (a := x) (b := E) (m := 5) (n := 20000000000000000) (by omega) (by omega) (by omega) (by omega)
      obtain ⟨P1, P2⟩ := P
      go_wp2_with fail
      refine hAt.mono ?_
      rintro e vv ⟨rfl, hvv⟩
      replace hvv := hvv.symm
      subst hvv
      clear hAt
      go_wp2_with (at_builtin; refine wpList_append_own _ rfl _ _ 24 rfl v2.heap.size 2 i0 (.int .i64 0) 1 8 Try.underlying24 hi hz0 hz1 hzb rfl (by decide) _ _ _ rfl (hown.alloc _) ⟨wr.heap.size, 0, none⟩ 1 1 [.int .i64 x] rfl rfl (cell_one_new _ _ _) (fun u hu => by simp at hu; subst hu; rfl) (by unfold maxLen; omega) (by omega) (by simp; omega) ?_; intro v' u2 hown2 hgrow _; have hap : Below v2.heap.size wr u2 := ((Below.refl v2.heap.size wr).alloc hsz _).grown hgrow (by simp; omega) (fun q hq => (hown.lt q hq).1); have q0 := (hap.cell (p := ⟨b, off + k * 2, none⟩) hb).trans hc0; have q1 := (hap.cell (p := ⟨b, off + k * 2 + 1, none⟩) hb).trans hc1)
      refine (HV.out u2 hap).mono ?_
      rintro e u3 ⟨rfl, hb3⟩
      have hown3 := own_below (row_ext' hkl.out hown2) hb3
      obtain ⟨g1, c1, rfl, hcc⟩ := own_block hown3 (by omega)
      have hbel3 : Below v2.heap.size v2 u3 := (hbel.trans hap).trans (hb3.mono (Nat.le_trans hsz hap.size))
      have HL1 : Hid ((ks ++ [x]).length = k + 1) := by show _ = _; simp [hkl.out]
      clear hown2 hgrow hown HV q0 q1 hc0 hc1 hap hb3
      go_wp2_with fail
      go_roundw
      case rel => exact ⟨k + 1, g1, c1, ks ++ [x], W + x * E, by omega, by go_num, by go_num, HL1, HKE.out, by go_num, HWN.out, by omega, by omega, hown3, hbel3⟩
      case measure => simp [intOf]; omega
    · have e : k = n := by omega
      subst e
      obtain ⟨r, hr1, hr2, hr3⟩ := comb_val (by have := hlt.out; omega) HSM.out (hkl.out.trans hlt.out.symm) hkb.out vs
      rw [hlt.out, hW.out] at hr3
      have hpos : holdB ts vs = true → 0 ≤ W := fun h => by
        rw [← hW.out, ← hlt.out]
        exact want_pos hkb.out (of_decide_eq_true h) _ (Nat.le_refl _)
      have HPOS := Lib.hid hpos
      have htot : totT ts ≤ 1048576 := by have := tot_small (fun t h => (tmB_parts (HSM.out t h).1).1); have := hlt.out; omega
      have hC := implCombine_c Af k cf ts (some ⟨g', 0, none⟩) k c' ks wr ((HIF.out.next hbel (Nat.le_refl _)).more hsz) htot ((OwnL.of_own hown).all) (by omega) (by omega)
      rw [hr1] at hC
      have HC : Hid (Calls Try.prog 23 #[.slice Af k cf, .slice (some ⟨g', 0, none⟩) k c'] wr fun e w' => ∃ A k c, e = .returned (.tuple #[.agg #[.int .i64 r.1, .slice A k c], .bool true]) ∧ OwnL w' wr.heap.size w'.heap.size A k c r.2 ∧ Below wr.heap.size wr w') := hC
      have HR3 := Lib.hid hr3
      have HRT := Lib.hid hr2
      clear hC hr1 hr2 hr3 hpos hown
      go_wp2_with fail
      refine HC.out.mono ?_
      rintro e v3 ⟨A3, m3, c3, rfl, ho3, hb3⟩
      have hx3 := bnew v3 (.cells #[.int .i64 r.1, .slice A3 m3 c3] 26)
      have br : BlkIs (v3.alloc (.cells #[.int .i64 r.1, .slice A3 m3 c3] 26)) v3.heap.size 26 #[.int .i64 r.1, .slice A3 m3 c3] := blk_new _ _ _ _ rfl
      have r0 : (v3.alloc (.cells #[.int .i64 r.1, .slice A3 m3 c3] 26)).cell? ⟨v3.heap.size, 0, none⟩ = some (.int .i64 r.1) := br.cell 0
      have r1 : (v3.alloc (.cells #[.int .i64 r.1, .slice A3 m3 c3] 26)).cell? ⟨v3.heap.size, 1, none⟩ = some (.slice A3 m3 c3) := br.cell 1
      have hb23 : Below v2.heap.size v2 (v3.alloc (.cells #[.int .i64 r.1, .slice A3 m3 c3] 26)) := (hbel.trans (hb3.mono hsz)).trans (hx3.mono (by have := hb3.size; omega))
      have iR := (ho3.all).on hx3
      have iF := HIF.out.next hb23 (Nat.le_refl _)
      have iV := HIV.out.next hb23 (Nat.le_refl _)
      clear HC ho3 br
      go_wp2_with fail
      generalize v3.alloc (.cells #[.int .i64 r.1, .slice A3 m3 c3] 26) = v4 at hx3 r0 r1 hb23 iR iF iV ⊢
      have hs4 := hb23.size
      have hbw4 : Below w.heap.size w v4 := hb2.trans (hb23.mono hb2.size)
      have hV := b10Value_c v4.heap.size r.1 A3 m3 c3 r.2 (some ⟨gV, 0, none⟩) 10 cV vs v4 iR (iV.more hs4) (Nat.le_refl _) HRT.out HVS.out
      have et : evTo (r.1, r.2) vs r.2.length = W := HR3.out
      rw [et] at hV
      refine hV.mono ?_
      rintro e v5 ⟨rfl, hb5⟩
      have hH := b10Hold_c Af k cf v4.heap.size ts (some ⟨gV, 0, none⟩) cV vs v5 ((iF.more hs4).next hb5 (Nat.le_refl _)) ((iV.more hs4).next hb5 (Nat.le_refl _)) hb5.size (by omega) (fun t h => (HSM.out t h).1) HVS.out
      have HH := Lib.hid hH
      have hbw5 := bon hbw4 hb5
      clear hV hH et iR iF iV r0 r1
      cases hh : holdB ts vs with
      | true =>
        have hW0 := HPOS.out hh
        rw [hh] at HH
        clear hh
        go_wp2_with fail
        refine HH.out.mono ?_
        rintro e v6 ⟨rfl, hb6⟩
        go_wp2_with fail
        go_ret
        exact ⟨by congr 1 <;> simp <;> omega, bon hbw5 hb6⟩
      | false =>
        rw [hh] at HH
        clear hh
        go_wp2_with fail
        refine HH.out.mono ?_
        rintro e v6 ⟨rfl, hb6⟩
        go_wp2_with fail
        go_ret
        exact ⟨by congr 1, bon hbw5 hb6⟩

set_option maxRecDepth 100000 in
theorem lifted (os : Os) (started : os.Started) (H : Type) (enc : TypeId × Value → H) :
    ReturnsInHanded {} Try.checked os 5 .any (Rows.fnCombinedSpec.pre6 enc Try.prog Try.f5 Rows.fnCombinedRow.domain false) (Rows.fnCombinedSpec.post enc Try.prog Try.f5 false true false false) := by
  refine returnsInHanded_of_change (C := Try.checked) own started (by kernel_rfl) Try.func5
    (ChangeSpec.witness6 (enc := enc) (C := Try.checked) false ⟨#[], #[.slice none 0 0, .slice none 0 0], []⟩ 8 (by kernel_rfl) (by kernel_rfl) (by kernel_rfl) (by kernel_rfl)) ?_
  intro W base args ds gs before hval0 hW hcnd _
  have hval : ∀ (j : Nat) t v, Try.f5.params[j]? = some t → args[j]? = some v → Value.okWide Try.prog W .any base t v := hval0
  have hW' := hW
  obtain ⟨p, q, hA0, hV, rfl, hfz, hnd⟩ := hW
  have hA : DataW.TrodAll enc Try.prog W 0 (fun _ => true) true Try.f5.params.toList args.toList ds p := hA0
  rw [Try.params5] at hA hval
  obtain ⟨v0, vs0, d0, ds0, p0, q0, hargs, rfl, rfl, h0, r0⟩ := trodAll_cons hA
  obtain ⟨v1, vs1, d1, ds1, p1, q1, rfl, rfl, rfl, h1, r1⟩ := trodAll_cons r0
  obtain ⟨rfl, rfl, rfl⟩ := trodAll_nil r1
  obtain rfl : args = #[v0, v1] := by cases args; simp_all
  obtain ⟨rfl, rfl⟩ := trodVars_none hV
  obtain ⟨a0, len0, cap0, rfl⟩ := okWide_slice Try.underlying22 (hval 0 22 v0 rfl rfl)
  have k0 := h0
  have lt0 : ∀ x ∈ p0, x.block < W.heap.size := by obtain ⟨m, hm⟩ := k0; exact DataW.trod_lt m _ _ _ hm
  obtain ⟨z0, w0⟩ : ∃ zs, IsRow .u8 W a0 len0 cap0 zs := by
    obtain ⟨fuel, hf⟩ := h0
    rcases open_ints Try.underlying22 Try.underlying5 (by kernel_rfl) hf with ⟨hcs, _⟩ | ⟨x, l, c, zs, hcs, _, hl, hm, hz, _, hcell, hwz⟩
    · simp [Value.cells] at hcs
      obtain ⟨rfl, rfl, rfl⟩ := hcs
      exact ⟨[], .inl ⟨rfl, rfl, rfl, rfl⟩⟩
    · simp [Value.cells] at hcs
      obtain ⟨rfl, rfl, rfl⟩ := hcs
      exact ⟨zs, .inr ⟨_, rfl, hl, hm, by simpa using hz, hcell, hwz⟩⟩
  obtain ⟨a1, len1, cap1, rfl⟩ := okWide_slice Try.underlying22 (hval 1 22 v1 rfl rfl)
  have k1 := h1
  have lt1 : ∀ x ∈ p1, x.block < W.heap.size := by obtain ⟨m, hm⟩ := k1; exact DataW.trod_lt m _ _ _ hm
  obtain ⟨z1, w1⟩ : ∃ zs, IsRow .u8 W a1 len1 cap1 zs := by
    obtain ⟨fuel, hf⟩ := h1
    rcases open_ints Try.underlying22 Try.underlying5 (by kernel_rfl) hf with ⟨hcs, _⟩ | ⟨x, l, c, zs, hcs, _, hl, hm, hz, _, hcell, hwz⟩
    · simp [Value.cells] at hcs
      obtain ⟨rfl, rfl, rfl⟩ := hcs
      exact ⟨[], .inl ⟨rfl, rfl, rfl, rfl⟩⟩
    · simp [Value.cells] at hcs
      obtain ⟨rfl, rfl, rfl⟩ := hcs
      exact ⟨zs, .inr ⟨_, rfl, hl, hm, by simpa using hz, hcell, hwz⟩⟩
  clear hA0 hval0
  refine (walk a0 len0 cap0 z0 a1 len1 cap1 z1 W w0 w1).mono fun e W' ⟨he, bel⟩ => ?_
  subst he
  exact ⟨_, rfl, _, _, _, [], _, [], hW', trodAll_mk1 (shut_bool Try.underlying4 _), (trodAll_cons_mk (Below.trod laidOut (by kernel_rfl) (of_decide_eq_true (by kernel_rfl)) k0 bel lt0) (trodAll_cons_mk (Below.trod laidOut (by kernel_rfl) (of_decide_eq_true (by kernel_rfl)) k1 bel lt1) trodAll_mk0)), rfl, bel.frame _, fun h => by cases h⟩

theorem over : Rows.fnCombinedRow.holds Try.pinned (OpenSpec.ofChange Rows.fnCombinedSpec) :=
  OpenClaim.holds_of_wide 5 Try.f5 rfl rfl rfl rfl rfl rfl rfl ⟨rfl, rfl, rfl, rfl, rfl⟩ rfl rfl rfl rfl rfl (by kernel_rfl) Try.func5 (by kernel_rfl)
    (of_decide_eq_true (by kernel_rfl)) (by unfold Func.isWrapper; first | (rw [if_pos (by decide +kernel)]; kernel_rfl) | (rw [if_neg (by decide +kernel)]; exact ⟨rfl, rfl⟩))
    (fun os started H enc _ => lifted os started H enc)

/-- The statement. -/
theorem proved : Rows.FnCombinedSaid := over
#print axioms proved
end Go.Proofs.Ytddmpdpmgjggoaa.fnCombined
