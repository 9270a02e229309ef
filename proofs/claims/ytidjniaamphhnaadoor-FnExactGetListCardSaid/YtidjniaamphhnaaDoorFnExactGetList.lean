/-
  For every string and every index the program's GetList answers as the model's.
  Conditions: those that the card itself bears (errors.errorType as the program's text lays it).
-/
import Derived.Test.YtidjniaamphhnaaDoorCards
import Derived.Test.YtidjniaamphhnaaDoorTie
import Derived.Test.YtidjniaamphhnaaDoorGetL
import Derived.Test.YtidjniaamphhnaaDoorMark
import Derived.ChangeSame
import Derived.ChangeVars
import Derived.JoinedOf
import Derived.RowKit
import Derived.RowKitTokens
import Derived.LaidLaws
import Derived.LaidHandle
import Derived.Stop.Joined
import Derived.SevenTiedAt
namespace Go.Proofs.YtidjniaamphhnaaDoor.fnExactGetList
open Go.ChangeShapes Go.WideShapes Go.ChangeAt Go.RowKit
open Go.ChangeMaps (open_string shut_string)
set_option linter.unusedVariables false

theorem own : ownKnob Tryd.prog.godebug = none := by kernel_rfl
theorem et : Tryd.prog.globalNamed "errors.errorType" = some 0 := by kernel_rfl
theorem rt : (Tryd.prog.cutTypes.find? (·.1 == "internal/reflectlite.rtype")).map (·.2) = some 117 := by kernel_rfl
theorem oneRow : ((List.range 185).filter fun t => Tryd.prog.rowNamed t [101, 114, 114, 111, 114]) = [69] := by kernel_rfl
theorem size : Tryd.prog.types.size = 185 := by kernel_rfl

/-- What the card's list gives: the handle. -/
theorem handle_of_laid {W : World} (h : laidMetH Tryd.prog Rows.fnExactGetListRow.laid W) : Hd W := by
  have h' : laidMet Tryd.prog [] W ∧ handlesMet Tryd.prog Rows.fnExactGetListRow.laid W := h
  obtain ⟨name, u, ty, e1, e2, e3, e4, e5⟩ := h'.2 _ (List.mem_singleton.2 rfl)
  have en : name = [101, 114, 114, 111, 114] := (Option.some.inj e1).symm
  subst en
  obtain rfl := Option.some.inj (rt.symm.trans e2)
  have hm : ty ∈ (List.range 185).filter fun t => Tryd.prog.rowNamed t [101, 114, 114, 111, 114] := List.mem_filter.2 ⟨List.mem_range.2 (by rw [← size]; exact e3), e4⟩
  rw [oneRow] at hm
  obtain rfl := List.mem_singleton.1 hm
  have hh : typeHandle Tryd.prog 69 = .pointer (some ⟨9, 69, none⟩) := by kernel_rfl
  rw [hh] at e5
  simpa [Hd] using World.var?_cell et e5 0

/-- A world that meets the list. -/
noncomputable def laidWorld (os : Os) : World :=
  let w0 := World.holding Tryd.prog os ⟨#[], #[], []⟩
  { w0 with heap := w0.heap.modify 0 fun
      | .cells _ t frozen => .cells #[.iface 117 (.agg #[.pointer (some ⟨9, 69, none⟩)])] t frozen
      | o => o }
theorem laidWorld_met (os : Os) (args : Array Value) : laidMetH Tryd.prog Rows.fnExactGetListRow.laid ((laidWorld os).forCall (fun _ _ => 0) ⟨#[], args, []⟩).memory :=
  laidMetH_of_parts (laidMet_nil _ _) (by kernel_rfl)

/-- The list, the place and the word that GetList gives. -/
def glV (o : Option (List Int × Nat)) : List Int × Nat × Bool := match o with
  | some (zs, q) => (zs, q, true)
  | none => ([], 0, false)
theorem glR_any {B : Nat} {o : Option (List Int × Nat)} {e : Ending} {w' : World} (h : glR B o e w') :
    ∃ v, e = .returned (.tuple #[v, .int .i64 ((glV o).2.1 : Nat), .bool (glV o).2.2]) ∧ (glV o).1.length ≤ 100 ∧ w'.ownsRow B 2 1 v (glV o).1.length ((glV o).1.map ic) := by
  cases o with
  | none => exact ⟨_, h, by simp [glV], World.ownsRow_nil _ _ _ _⟩
  | some x => exact h
theorem getLs_len (s : ByteArray) : ∀ (k q : Nat) (acc zs : List Int) (x : Nat), getLs s k q acc = some (zs, x) → zs.length = acc.length + k
  | 0, q, acc, zs, x, h => by
    rw [getLs] at h
    injection h with h
    injection h with h1 h2
    rw [← h1]; rfl
  | k + 1, q, acc, zs, x, h => by
    rw [getLs] at h
    cases hg : getN s q with
    | none => rw [hg] at h; cases h
    | some y =>
      obtain ⟨n, q'⟩ := y
      rw [hg] at h
      have := getLs_len s k q' (acc ++ [n]) zs x h
      simp at this
      omega
theorem getL_short (s : ByteArray) (p : Nat) : (glV (getL s p)).1.length ≤ 100 := by
  unfold getL
  cases hg : getN s p with
  | none => simp [glV]
  | some y =>
    obtain ⟨n, q⟩ := y
    simp only []
    by_cases h : 0 ≤ n ∧ n ≤ 100
    · rw [if_pos h]
      cases hl : getLs s n.toNat q [] with
      | none => simp [glV]
      | some z =>
        obtain ⟨zs, x⟩ := z
        have := getLs_len s _ _ _ _ _ hl
        simp only [glV]
        simp at this
        omega
    · rw [if_neg h]; simp [glV]
theorem own_row {w : World} {base n c : Nat} {e : TypeId} {A : Option Addr} {xs : List Value} (h : w.ownsRow base e 1 (.slice A n c) n xs) : Row w w.heap.size A xs := by
  obtain ⟨A', c', h1, h2⟩ := own_slice h
  injection h1 with h1
  subst h1
  exact h2

set_option maxRecDepth 100000 in
set_option maxHeartbeats 4000000 in
/-- The law's way, whatever the two functions give, if they give the same. -/
theorem road (a0 : ByteArray) (a1 : Int) (w : World) (hd : Hd w) (hl : ¬ (1048576 : Int) < a0.size) (zs : List Int) (q : Nat) (t : Bool) (hz : zs.length ≤ 100)
    (HS : ∀ w, Calls Tryd.prog 29 #[.string a0, .int .i64 a1] w fun e w' => (∃ v, e = .returned (.tuple #[v, .int .i64 q, .bool t]) ∧ w'.ownsRow w.heap.size 2 1 v zs.length (zs.map ic)) ∧ Below w.heap.size w w')
    (HI : ∀ w, Hd w → Calls Tryd.prog 14 #[.string a0, .int .i64 a1] w fun e w' => (∃ v, e = .returned (.tuple #[v, .int .i64 q, .bool t]) ∧ w'.ownsRow w.heap.size 2 1 v zs.length (zs.map ic)) ∧ Below w.heap.size w w') :
    Calls Tryd.prog 8 #[.string a0, .int .i64 a1] w fun e w' => e = .returned (.bool true) ∧ Below w.heap.size w w' := by
  have HSS := Lib.hid HS
  have HII := Lib.hid HI
  have HD := Lib.hid hd
  have hpos := hd.lt
  clear HS HI hd
  go_enter Tryd.func8, Tryd.ntmps8
  go_wp2_with fail
  refine (HSS.out _).mono ?_
  rintro e w1 ⟨⟨v1, rfl, hown1⟩, hb1⟩
  obtain ⟨A1, c1, rfl, hrow1⟩ := own_slice hown1
  clear hown1
  go_wp2_with fail
  refine (HII.out _ (HD.out.below hb1 hpos)).mono ?_
  rintro e w2 ⟨⟨v2, rfl, hown2⟩, hb2⟩
  obtain ⟨A2, c2, rfl, hrow2⟩ := own_slice hown2
  have hrow12 := (hrow1.below hb2 (Nat.le_refl _)).more hb2.size
  have hb12 := hb1.trans (hb2.mono hb1.size)
  have HO2 := Lib.hid hown2
  clear hown2
  go_wp2_with fail
  refine (eqInt64S_c A2 A1 zs.length zs.length c2 c1 _ zs zs _ hrow2 hrow12 rfl rfl (by omega)).mono ?_
  rintro e w' ⟨rfl, d, rfl⟩
  rw [decide_eq_true rfl]
  go_wp2_with fail
  refine (mark_c w1.heap.size A2 zs.length c2 (zs.map ic) 1 (w2.drewN d) HO2.out (by omega) (by omega) (by omega)).mono ?_
  rintro e w3 ⟨rfl, hown3, hg3⟩
  have hb23 : Below w1.heap.size (w2.drewN d) w3 := (Below.refl _ _).grown hg3 hb2.size (fun k hk => (HO2.out.lt k hk).1)
  have hb13 : Below w1.heap.size w1 w3 := hb2.trans ((below_drewN (Below.refl _ _) d).trans hb23)
  have hrow3 := own_row hown3
  have hrow13 := hrow1.below hb13 (Nat.le_refl _)
  have hbw3 := hb1.trans (hb13.mono hb1.size)
  have hs13 := hb13.size
  clear hown3 hg3 hrow12 hrow2
  go_wp2_with fail
  refine (held_c A2 zs.length c2 _ 1 _ hrow3 (by omega) (by omega) (by omega)).mono ?_
  rintro e w' ⟨rfl, rfl⟩
  go_wp2_with fail
  refine (HII.out _ (HD.out.below hbw3 hpos)).mono ?_
  rintro e w4 ⟨⟨v3, rfl, hown4⟩, hb4⟩
  obtain ⟨A3, c3, rfl, hrow4⟩ := own_slice hown4
  have hrow14 := ((hrow13.below hb4 hs13).more (Nat.le_trans hs13 hb4.size))
  have hrow34 := hrow3.below hb4 (Nat.le_refl _)
  have hbw4 := hbw3.trans (hb4.mono hbw3.size)
  clear hown4
  go_wp2_with fail
  refine (eqInt64S_c A3 A1 zs.length zs.length c3 c1 _ zs zs _ hrow4 hrow14 rfl rfl (by omega)).mono ?_
  rintro e w' ⟨rfl, d4, rfl⟩
  rw [decide_eq_true rfl]
  go_wp2_with fail
  refine (held_c A2 zs.length c2 _ 1 (w4.drewN d4) hrow34 (by omega) (by omega) (by omega)).mono ?_
  rintro e w' ⟨rfl, rfl⟩
  go_wp2_with fail
  go_ret
  exact ⟨rfl, below_drewN hbw4 d4⟩

theorem walk (a0 : ByteArray) (a1 : Int) (w0 : a0.size ≤ maxLen) (w1 : (Lit.int .i64 a1).wf = true) (w : World) (hd : Hd w) :
    Calls Tryd.prog 8 #[.string a0, .int .i64 a1] w fun e w' => e = .returned (.bool true) ∧ Below w.heap.size w w' := by
  by_cases hl : (1048576 : Int) < a0.size
  · clear hd
    go_enter Tryd.func8, Tryd.ntmps8
    go_wp2
    go_ret
    exact ⟨rfl, Below.refl _ _⟩
  · obtain ⟨o, hz, HS, HI⟩ : ∃ o, (glV o).1.length ≤ 100 ∧ (∀ w, Calls Tryd.prog 29 #[.string a0, .int .i64 a1] w fun e w' => glR w.heap.size o e w' ∧ Below w.heap.size w w') ∧
        (∀ w, Hd w → Calls Tryd.prog 14 #[.string a0, .int .i64 a1] w fun e w' => glR w.heap.size o e w' ∧ Below w.heap.size w w') := by
      by_cases hin : 0 ≤ a1 ∧ a1 ≤ a0.size
      · obtain ⟨h0, h1⟩ := hin
        obtain ⟨p, rfl⟩ := Int.eq_ofNat_of_zero_le h0
        exact ⟨getL a0 p, getL_short a0 p, fun w => specList_yes a0 p w (by omega) (by omega), fun w hd => getList_yes a0 p w (by omega) (by omega) hd⟩
      · exact ⟨none, by simp [glV], fun w => specList_no a0 a1 w hin, fun w hd => getList_no a0 a1 w hin (by omega) hd⟩
    exact road a0 a1 w hd hl (glV o).1 (glV o).2.1 (glV o).2.2 hz
      (fun w => (HS w).mono fun e w' ⟨h, hb⟩ => by obtain ⟨v, h1, _, h3⟩ := glR_any h; exact ⟨⟨v, h1, h3⟩, hb⟩)
      (fun w hd => (HI w hd).mono fun e w' ⟨h, hb⟩ => by obtain ⟨v, h1, _, h3⟩ := glR_any h; exact ⟨⟨v, h1, h3⟩, hb⟩)

theorem laidOut : laidOutB Tryd.prog = true := by kernel_rfl
set_option maxRecDepth 100000 in
theorem lifted (os : Os) (started : os.Started) (H : Type) (enc : TypeId × Value → H) :
    ReturnsInHanded {} Tryd.checked os 8 .any (fun w args => (Rows.fnExactGetListSpec.pre enc Tryd.prog Tryd.f8 [] false w args ∧ laidMetH Tryd.prog Rows.fnExactGetListRow.laid w) ∧ sizedMet enc Tryd.prog Tryd.f8 (OpenSpec.ofChange Rows.fnExactGetListSpec) false w args)
      (Rows.fnExactGetListSpec.post enc Tryd.prog Tryd.f8 false true false false) := by
  refine returnsInHanded_of_change_and (C := Tryd.checked) (X := fun w _ => laidMetH Tryd.prog Rows.fnExactGetListRow.laid w) (fun _ _ _ hh h => h.of_heap hh) own started (by kernel_rfl) Tryd.func8
    (ChangeSpec.witness_at (enc := enc) (C := Tryd.checked) (os := os) (X := fun w _ => laidMetH Tryd.prog Rows.fnExactGetListRow.laid w) false (laidWorld os) #[.string ByteArray.empty, .int .i64 0] 8 rfl (by kernel_rfl) (by kernel_rfl) (by kernel_rfl) (by kernel_rfl) (by kernel_rfl) (laidWorld_met os _)) ?_
  intro W base args ds gs before hval0 hW _ _ hL _
  have hval : ∀ (j : Nat) t v, Tryd.f8.params[j]? = some t → args[j]? = some v → Value.okWide Tryd.prog W .any base t v := hval0
  have hW' := hW
  obtain ⟨p, q, hA0, hV0, rfl, hfz, hnd⟩ := hW
  have hA : DataW.TrodAll enc Tryd.prog W 0 (fun _ => true) true Tryd.f8.params.toList args.toList ds p := hA0
  rw [Tryd.params8] at hA hval
  obtain ⟨v0, vs0, d0, ds0, p0, q0, hargs, rfl, rfl, h0, r0⟩ := trodAll_cons hA
  obtain ⟨v1, vs1, d1, ds1, p1, q1, rfl, rfl, rfl, h1, r1⟩ := trodAll_cons r0
  obtain ⟨rfl, rfl, rfl⟩ := trodAll_nil r1
  obtain rfl : args = #[v0, v1] := by cases args; simp_all
  obtain ⟨rfl, rfl⟩ := trodVars_none hV0
  obtain ⟨a0, rfl, rfl, rfl, w0⟩ := open_string Tryd.underlying9 (hval 0 9 v0 rfl rfl) h0
  obtain ⟨a1, rfl, rfl, rfl, w1⟩ := open_int Tryd.underlying2 (hval 1 2 v1 rfl rfl) h1
  have hg := handle_of_laid hL
  clear hA0 hval0
  simp only [List.append_nil] at hW'
  refine (walk a0 a1 w0 w1 W hg).mono fun e W' ⟨he, bel⟩ => ?_
  subst he
  exact ⟨_, rfl, _, _, _, [], _, [], hW', trodAll_mk1 (shut_bool Tryd.underlying4 _), (trodAll_cons_mk (shut_string Tryd.underlying9 w0) (trodAll_cons_mk (shut_int Tryd.underlying2 w1) trodAll_mk0)), rfl, bel.frame _, fun h => by cases h⟩

theorem said : Rows.FnExactGetListSaid :=
  OpenClaim.holds_of_wide 8 Tryd.f8 rfl rfl rfl rfl rfl rfl rfl ⟨rfl, rfl, rfl, rfl, rfl⟩ rfl rfl rfl rfl rfl (by kernel_rfl) Tryd.func8 (by kernel_rfl)
    (of_decide_eq_true (by kernel_rfl)) (by unfold Func.isWrapper; rw [if_neg (of_decide_eq_false (by kernel_rfl))]; exact ⟨rfl, rfl⟩)
    (fun os started H enc _ => lifted os started H enc)

/-- No parameter wants a stand-in; the program's own looks are off: what the card asks. -/
theorem plain (f : FuncId) (fn : Func) (hf : Tryd.pinned.checked.prog.funcNamed "loop.example/g01105/laws.FnExactGetList" = some f) (hfn : Tryd.pinned.checked.prog.funcs[f]? = some fn) :
    true = Tryd.pinned.checked.prog.looks [] ∧ ∀ (j : Nat) t, fn.params[j]? = some t → Tryd.pinned.checked.prog.wantsStandIn t = false := by
  obtain rfl : f = 8 := Option.some.inj ((show Tryd.prog.funcNamed "loop.example/g01105/laws.FnExactGetList" = some 8 by kernel_rfl).symm.trans hf) |>.symm
  obtain rfl : fn = Tryd.f8 := (Option.some.inj (Tryd.func8.symm.trans hfn)).symm
  refine ⟨by kernel_rfl, fun j t ht => ?_⟩
  rw [Tryd.params8] at ht
  have hm : t = 9 ∨ t = 2 := by simpa using Array.mem_of_getElem? ht
  rcases hm with rfl | rfl
  · exact (show Tryd.prog.wantsStandIn 9 = false by kernel_rfl)
  · exact (show Tryd.prog.wantsStandIn 2 = false by kernel_rfl)

/-- The card. -/
theorem proved : Rows.FnExactGetListCardSaid :=
  Claim7.holds_tied_plain_at .later [] _ _ _ _ said (fun _ h => by cases h) (by kernel_rfl) (fun _ h => by cases h) fnExactGetList_row_tie rfl ⟨rfl, rfl⟩ (by kernel_rfl) rfl plain (by kernel_rfl)
#print axioms proved
end Go.Proofs.YtidjniaamphhnaaDoor.fnExactGetList
