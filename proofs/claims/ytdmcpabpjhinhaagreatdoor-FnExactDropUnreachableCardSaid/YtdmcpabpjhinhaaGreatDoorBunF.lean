/-
  Several texts in one: SplM, Leave, ConcP, DropI, UnreM, UnreR, UnreI. Conditions: as each says.
-/
import Derived.Test.YtdmcpabpjhinhaaGreatDoorDropS
import Derived.Test.YtdmcpabpjhinhaaGreatDoorBunC
import Derived.IntWalk
import Derived.Test.YtdmcpabpjhinhaaGreatDoorBunE
import Derived.Test.YtdmcpabpjhinhaaGreatDoorPtRow
import Derived.Test.YtdmcpabpjhinhaaGreatDoorBunA
import Derived.Lib.AppendZeros
import Derived.Test.YtdmcpabpjhinhaaGreatDoorWith
import Derived.Laws.StructEq
import Derived.ChangeKeysEq

/-! The model's splice of one instruction that is left out. Conditions: valid code. -/
namespace Go.Proofs.YtdmcpabpjhinhaaGreatDoor
set_option linter.unusedVariables false
open Go.RowKit

theorem l09Jumps_c (p q : Int) (w : World) : Calls Tryz.prog 76 #[.agg #[.int .i64 p, .int .i64 q]] w fun e w' => e = .returned (.bool (decide (p = 5 ∨ p = 6))) ∧ Below w.heap.size w w' := by
  by_cases h5 : p = 5
  · have e5 : (p == 5) = true := by simp [h5]
    clear h5
    go_enter Tryz.func76, Tryz.ntmps76
    go_wp2_with fail
    go_ret
    exact ⟨ret_bool (by simp_all), bnew _ _⟩
  · have e5 : (p == 5) = false := by simp [h5]
    by_cases h6 : p = 6
    · have e6 : (p == 6) = true := by simp [h6]
      clear h5 h6
      go_enter Tryz.func76, Tryz.ntmps76
      go_wp2_with fail
      go_ret
      exact ⟨ret_bool (by simp_all), bnew _ _⟩
    · have e6 : (p == 6) = false := by simp [h6]
      clear h5 h6
      go_enter Tryz.func76, Tryz.ntmps76
      go_wp2_with fail
      go_ret
      exact ⟨ret_bool (by simp_all), bnew _ _⟩

theorem PRow.set_a {w : World} {base n g c : Nat} {xs : List P2} {j : Nat} {x : P2} {z : Int} (h : PRow w base (.slice (some ⟨g, 0, none⟩) n c) n xs) (hx : xs[j]? = some x) : PRow (w.setCell ⟨g, j * 2, none⟩ (.int .i64 z)) base (.slice (some ⟨g, 0, none⟩) n c) n (xs.set j ⟨z, x.s⟩) := by
  obtain ⟨h1, cs, h3, h4⟩ := h
  have hjl := (List.getElem?_eq_some_iff.1 hx).1
  have hcl := h3.1
  refine ⟨by rw [List.length_set]; exact h1, _, (h3.stored (j * 2) (.int .i64 z)).1, fun i y hi => ?_⟩
  have hno := own_noP h3
  have hg : w.grownBy (w.setCell ⟨g, j * 2, none⟩ (.int .i64 z)) (some g) := only_set
  rw [List.getElem?_set] at hi
  split at hi
  · rename_i e
    subst e
    obtain rfl := Option.some.inj hi
    obtain ⟨a, A', c', b, d⟩ := h4 j x hx
    exact ⟨List.getElem?_set_self (by omega), A', c', by rw [List.getElem?_set_ne (by omega)]; exact b, d.kept hg hno⟩
  · obtain ⟨a, A', c', b, d⟩ := h4 i y hi
    exact ⟨by rw [List.getElem?_set_ne (by omega)]; exact a, A', c', by rw [List.getElem?_set_ne (by omega)]; exact b, d.kept hg hno⟩
theorem subI_no {k : Int} {x : Int × Int} (h : ¬ ((x.1 = 5 ∨ x.1 = 6) ∧ k < x.2)) : subI k x = x := if_neg h
theorem subI_yes {k : Int} {x : Int × Int} (h : (x.1 = 5 ∨ x.1 = 6) ∧ k < x.2) : subI k x = (x.1, x.2 - 1) := if_pos h
theorem subP_no {k : Int} {p : P2} (h : ¬ k < p.a) : subP k p = p := if_neg h
theorem subP_yes {k : Int} {p : P2} (h : k < p.a) : subP k p = ⟨p.a - 1, p.s⟩ := if_pos h
theorem inC_take {w : World} {B n k : Nat} {A : Option Addr} {xs : List (Int × Int)} (h : InC w B A n xs) (hk : k ≤ n) : InC w B A k (xs.take k) := by
  refine ⟨by rw [List.length_take, h.1]; omega, fun j x hj => ?_⟩
  have hl := (List.getElem?_eq_some_iff.1 hj).1
  rw [List.length_take] at hl
  rw [List.getElem?_take_of_lt (by omega)] at hj
  exact h.2 j x hj
theorem inC_drop {w : World} {B n k g : Nat} {xs : List (Int × Int)} (h : InC w B (some ⟨g, 0, none⟩) n xs) : InC w B (some ⟨g, k * 2, none⟩) (n - k) (xs.drop k) := by
  refine ⟨by rw [List.length_drop, h.1], fun j x hj => ?_⟩
  rw [List.getElem?_drop] at hj
  obtain ⟨b, off, e, hb, q0, q1⟩ := h.2 _ x hj
  cases e
  refine ⟨g, k * 2, rfl, hb, ?_, ?_⟩
  · rw [show k * 2 + j * 2 = 0 + (k + j) * 2 by omega]; exact q0
  · rw [show k * 2 + j * 2 + 1 = 0 + (k + j) * 2 + 1 by omega]; exact q1
theorem ownC_cap {w : World} {base n c : Nat} {A : Option Addr} {xs : List Value} (h : w.ownsRow base 65 2 (.slice A n c) n xs) (hn : 0 < n) : ∃ g, A = some ⟨g, 0, none⟩ ∧ n ≤ c ∧ base ≤ g := by
  rcases h.2 with ⟨h', hn'⟩ | ⟨b, cap, cur, k1, k2, k3, k4, _⟩
  · omega
  · injection k1 with e1 e2 e3
    exact ⟨b, e1, by omega, k2⟩

/-- Annotated code in rows of the model's own. -/
structure AnM (w : World) (base : Nat) (B0 : Option Addr) (B1 : Option Addr) (B2 : Option Addr) (d2 : Nat) (B3 : Option Addr) (d3 : Nat) (t0 t1 : List (Int × List Int)) (t2 : List (Int × Int)) (t3 : List P2) : Prop where
  f0 : TsL w B0 t0.length t0
  f1 : TsL w B1 t1.length t1
  f2 : w.ownsRow base 65 2 (.slice B2 t2.length d2) t2.length (flatC t2)
  f3 : PRow w base (.slice B3 t3.length d3) t3.length t3
section
variable {w w' : World} {base d2 d3 : Nat} {B0 B1 B2 B3 : Option Addr} {t0 t1 : List (Int × List Int)} {t2 : List (Int × Int)} {t3 : List P2}
theorem AnM.kept {r : Option Nat} (h : AnM w base B0 B1 B2 d2 B3 d3 t0 t1 t2 t3) (hg : w.grownBy w' r) (hi : ∀ k cs, r = some k → w.heap[k]? ≠ some (.cells cs 2 (0, 0))) (ht : ∀ k cs, r = some k → w.heap[k]? ≠ some (.cells cs 88 (0, 0)))
    (hc : ∀ k cs, r = some k → w.heap[k]? ≠ some (.cells cs 65 (0, 0))) (hp : ∀ k cs, r = some k → w.heap[k]? ≠ some (.cells cs 83 (0, 0))) : AnM w' base B0 B1 B2 d2 B3 d3 t0 t1 t2 t3 :=
  ⟨h.f0.kept hg (fun k cs e => ⟨hi k cs e, ht k cs e⟩), h.f1.kept hg (fun k cs e => ⟨hi k cs e, ht k cs e⟩), own_kept h.f2 hg hc, h.f3.kept hg (fun k cs e => ⟨hi k cs e, ht k cs e⟩) hp⟩
theorem AnM.next (h : AnM w base B0 B1 B2 d2 B3 d3 t0 t1 t2 t3) (hb : Below w.heap.size w w') : AnM w' base B0 B1 B2 d2 B3 d3 t0 t1 t2 t3 :=
  h.kept (r := none) (grown_of hb) (fun k cs e => by cases e) (fun k cs e => by cases e) (fun k cs e => by cases e) (fun k cs e => by cases e)
theorem AnM.less {base' : Nat} (h : AnM w base B0 B1 B2 d2 B3 d3 t0 t1 t2 t3) (hb : base' ≤ base) : AnM w base' B0 B1 B2 d2 B3 d3 t0 t1 t2 t3 := ⟨h.f0, h.f1, own_less h.f2 hb, h.f3.less hb⟩
end

theorem app_csN {w : World} {B base k n c : Nat} {v : Value} {A : Option Addr} {ys xs : List (Int × Int)} (hr : w.ownsRow base 65 2 v k (flatC ys)) (h : InC w B A n xs) (hbw : base ≤ w.heap.size) (hk : k ≤ 100000) (hn : n ≤ 100000) (hyl : ys.length = k) :
    ∃ A' c' w', (Builtin.append_ #[29, 29] 29 #[v, .slice A n c]).run Tryz.prog w = .ok (.slice A' (k + n) c') w' ∧ w'.ownsRow base 65 2 (.slice A' (k + n) c') (k + n) (flatC (ys ++ xs)) ∧ w.grownBy w' v.ownBlock ∧ Below base w w' := by
  obtain ⟨i0, hi, hz0, hz1, hz2⟩ := info_parts infoInstr
  obtain ⟨v', w', h1, h2, h3⟩ : ∃ v' w', (Builtin.append_ #[29, 29] 29 #[v, .slice A n c]).run Tryz.prog w = .ok v' w' ∧ w'.ownsRow base 65 2 v' (k + n) (flatC (ys ++ xs)) ∧ w.grownBy w' v.ownBlock := by
    rcases A with _ | ad
    · have hn0 : n = 0 := by
        rcases Nat.eq_zero_or_pos n with h0 | h0
        · exact h0
        · obtain ⟨_, _, _, e, _⟩ := h.at_ (k := 0) h0
          cases e
      subst hn0
      have hxs : xs = [] := List.eq_nil_of_length_eq_zero h.1
      subst hxs
      exact ⟨v, w, nil_any w base _ _ 65 i0 2 Tryz.underlying29 hi v k _ hr c, (by simpa using hr), grown_of (Below.refl _ _)⟩
    · obtain ⟨v', w', e1, e2, e3, _⟩ := run_append_own w base 29 29 65 i0 (.agg #[.int .i64 0, .int .i64 0]) 2 16 Tryz.underlying29 hi hz0 hz1 hz2 rfl (by decide) v k _ hr ad n c (flatC xs) (by rw [flatC_len, h.1]) (flatC_news h) (flatC_one xs) (by unfold maxLen; omega) (by omega) hbw
      rw [← flatC_app] at e2
      exact ⟨v', w', e1, e2, e3⟩
  obtain ⟨A', c', rfl, _⟩ := own_sliceC h2 (by rw [List.length_append, hyl, h.1])
  exact ⟨A', c', w', h1, h2, h3, (Below.refl base w).grown h3 hbw (fun j hj => (hr.lt j hj).1)⟩

/-- Boxes and rows while a splice makes its code. -/
structure SpS (u : World) (g x base : Nat) (cs : Array Value) (C0 C1 : Option Addr) (v3 : Value) (t0 t1 : List (Int × List Int)) (t3 : List P2) : Prop where
  hg : BlkIs u g 32 cs
  hx : BlkIs u x 32 #[.slice none 0 0, .slice none 0 0, .slice none 0 0, .slice none 0 0]
  h0 : TsL u C0 t0.length t0
  h1 : TsL u C1 t1.length t1
  h3 : PRow u base v3 t3.length t3
section
variable {u u' : World} {g x base : Nat} {cs : Array Value} {C0 C1 : Option Addr} {v3 : Value} {t0 t1 : List (Int × List Int)} {t3 : List P2}
theorem SpS.next (h : SpS u g x base cs C0 C1 v3 t0 t1 t3) (hb : Below u.heap.size u u') : SpS u' g x base cs C0 C1 v3 t0 t1 t3 := ⟨h.hg.next hb, h.hx.next hb, h.h0.next hb, h.h1.next hb, h.h3.next hb⟩
theorem SpS.row {b n : Nat} {v : Value} {xs : List Value} (h : SpS u g x base cs C0 C1 v3 t0 t1 t3) (ho : u.ownsRow b 65 2 v n xs) (hg : u.grownBy u' v.ownBlock) : SpS u' g x base cs C0 C1 v3 t0 t1 t3 :=
  ⟨blk_grown h.hg ho (by decide) hg, blk_grown h.hx ho (by decide) hg, h.h0.kept hg (fun k cs e => ⟨own_not ho (by decide) k cs e, own_not ho (by decide) k cs e⟩), h.h1.kept hg (fun k cs e => ⟨own_not ho (by decide) k cs e, own_not ho (by decide) k cs e⟩), h.h3.kept hg (fun k cs e => ⟨own_not ho (by decide) k cs e, own_not ho (by decide) k cs e⟩) (own_not ho (by decide))⟩
theorem SpS.set (h : SpS u g x base cs C0 C1 v3 t0 t1 t3) (hne : x ≠ g) (i : Nat) (v : Value) : SpS (u.setCell ⟨g, i, none⟩ v) g x base (cs.setIfInBounds i v) C0 C1 v3 t0 t1 t3 :=
  have hn := fun k cs e => And.intro (blk_not h.hg (e' := 2) (by decide) k cs e) (blk_not h.hg (e' := 88) (by decide) k cs e)
  ⟨h.hg.set i v, h.hx.far hne i v, h.h0.kept only_set hn, h.h1.kept only_set hn, h.h3.kept only_set hn (blk_not h.hg (by decide))⟩
theorem SpS.setP {n c gp j : Nat} {p : P2} {z : Int} (h : SpS u g x base cs C0 C1 (.slice (some ⟨gp, 0, none⟩) n c) t0 t1 t3) (hn : t3.length = n) (hp : t3[j]? = some p) : SpS (u.setCell ⟨gp, j * 2, none⟩ (.int .i64 z)) g x base cs C0 C1 (.slice (some ⟨gp, 0, none⟩) n c) t0 t1 (t3.set j ⟨z, p.s⟩) := by
  subst hn
  obtain ⟨_, cs', ho, _⟩ := h.h3
  have hg : u.grownBy (u.setCell ⟨gp, j * 2, none⟩ (.int .i64 z)) (Value.slice (some ⟨gp, 0, none⟩) t3.length c).ownBlock := only_set (g := gp)
  have hs := h.h3.set_a (z := z) hp
  refine ⟨blk_grown h.hg ho (by decide) hg, blk_grown h.hx ho (by decide) hg, h.h0.kept hg (own_noP ho), h.h1.kept hg (own_noP ho), ?_⟩
  rw [List.length_set]
  exact hs
end

set_option maxRecDepth 100000 in
set_option maxHeartbeats 8000000 in
theorem l09Splice_c (b base : Nat) (B0 : Option Addr) (d0 : Nat) (B1 : Option Addr) (d1 : Nat) (B2 : Option Addr) (d2 : Nat) (B3 : Option Addr) (d3 : Nat) (t0 t1 : List (Int × List Int)) (t2 : List (Int × Int)) (t3 : List P2) (k q : Nat) (w : World)
    (hP : BlkIs w b 32 #[.slice B0 t0.length d0, .slice B1 t1.length d1, .slice B2 t2.length d2, .slice B3 t3.length d3]) (hM : AnM w base B0 B1 B2 d2 B3 d3 t0 t1 t2 t3)
    (s0 : t0.length ≤ 1000 ∧ ∀ t ∈ t0, t.2.length ≤ 100000) (s1 : t1.length ≤ 1000 ∧ ∀ t ∈ t1, t.2.length ≤ 100000) (s2 : t2.length ≤ 1000) (s3 : t3.length ≤ 1000 ∧ ∀ p ∈ t3, p.s.length ≤ 1000 ∧ ∀ t ∈ p.s, t.2.length ≤ 100000)
    (hk : k < t2.length) (hbc : BndC t2) (hbp : BndP t3) :
    Calls Tryz.prog 47 #[.pointer (some ⟨b, 0, none⟩), .int .i64 (k : Int), .int .i64 1, .slice (some ⟨q, 0, none⟩) 0 0] w fun e w' => ∃ C0 e0 C1 e1 C2 e2 C3 e3, e = .returned (.agg #[.slice C0 t0.length e0, .slice C1 t1.length e1, .slice C2 (leaveC k t2).length e2, .slice C3 (leaveP k t3).length e3]) ∧ AnM w' w.heap.size C0 C1 C2 e2 C3 e3 t0 t1 (leaveC k t2) (leaveP k t3) ∧ Below w.heap.size w w' := by
  have hb0 := bnew w (.cells #[.slice none 0 0, .slice none 0 0, .slice none 0 0, .slice none 0 0] 32)
  have hX : BlkIs (w.alloc (.cells #[.slice none 0 0, .slice none 0 0, .slice none 0 0, .slice none 0 0] 32)) w.heap.size 32 #[.slice none 0 0, .slice none 0 0, .slice none 0 0, .slice none 0 0] := blk_new _ _ _ _ rfl
  have hsz : (w.alloc (.cells #[.slice none 0 0, .slice none 0 0, .slice none 0 0, .slice none 0 0] 32)).heap.size = w.heap.size + 1 := by simp
  obtain ⟨gB, rfl, hcap, hgB⟩ := ownC_cap hM.f2 (by omega)
  have hin2 : InC w w.heap.size (some ⟨gB, 0, none⟩) t2.length t2 := (OwnC.of_own hM.f2 rfl).all
  obtain ⟨A3', c3', hv3, hPt3⟩ := hM.f3.out
  injection hv3 with i1 i2 i3
  subst i1
  clear i2 i3
  have HOwn := Lib.hid (l08Own_c b B0 t0.length d0 t0 B1 t1.length d1 t1 (some ⟨gB, 0, none⟩) t2.length d2 t2 B3 t3.length d3 t3 w.heap.size _ (hP.next hb0) (hM.f0.inn.next hb0 (Nat.le_refl _)) (hM.f1.inn.next hb0 (Nat.le_refl _)) (hin2.next hb0 (Nat.le_refl _)) (hPt3.inn.next hb0 (Nat.le_refl _)) hb0.size s0.1 s0.2 s1.1 s1.2 s2 s3.1 s3.2)
  have HIN := Lib.hid hin2
  have HBC := Lib.hid hbc
  have HBP := Lib.hid hbp
  have HP := Lib.hid hP
  clear hM hin2 hPt3 s0 s1 hbc hbp hP
  go_enter Tryz.func47, Tryz.ntmps47
  go_wp2_with fail
  generalize w.alloc (.cells #[.slice none 0 0, .slice none 0 0, .slice none 0 0, .slice none 0 0] 32) = W at hb0 hX hsz HOwn ⊢
  refine HOwn.out.mono ?_
  rintro e w2 ⟨C0, e0, C1, e1, C2, e2, C3, e3, rfl, hT0, hT1, hC, hR, hb2⟩
  have hs2 := hb2.size
  have hbw2 := bon hb0 hb2
  have hbA := bnew w2 (.cells #[.slice C0 t0.length e0, .slice C1 t1.length e1, .slice C2 t2.length e2, .slice C3 t3.length e3] 32)
  have hbE := bnew (w2.alloc (.cells #[.slice C0 t0.length e0, .slice C1 t1.length e1, .slice C2 t2.length e2, .slice C3 t3.length e3] 32)) (.cells #[] 65)
  have hbAE := bon hbA hbE
  obtain ⟨V, hV⟩ : ∃ V, V = (w2.alloc (.cells #[.slice C0 t0.length e0, .slice C1 t1.length e1, .slice C2 t2.length e2, .slice C3 t3.length e3] 32)).alloc (.cells #[] 65) := ⟨_, rfl⟩
  have hS : SpS V w2.heap.size w.heap.size W.heap.size #[.slice C0 t0.length e0, .slice C1 t1.length e1, .slice C2 t2.length e2, .slice C3 t3.length e3] C0 C1 (.slice C3 t3.length e3) t0 t1 t3 := by
    rw [hV]
    exact ⟨(blk_new w2 _ _ _ rfl).next hbE, ((hX.next hb2).next hbA).next hbE, (hT0.next hbA).next hbE, (hT1.next hbA).next hbE, (hR.next hbA).next hbE⟩
  have hE : V.ownsRow (w2.heap.size + 1) 65 2 (.slice (some ⟨w2.heap.size + 1, 0, none⟩) 0 0) 0 (flatC []) := by
    have h := own_empty2 (w2.alloc (.cells #[.slice C0 t0.length e0, .slice C1 t1.length e1, .slice C2 t2.length e2, .slice C3 t3.length e3] 32)) 65
    rw [show (w2.alloc (.cells #[.slice C0 t0.length e0, .slice C1 t1.length e1, .slice C2 t2.length e2, .slice C3 t3.length e3] 32)).heap.size = w2.heap.size + 1 by simp, ← hV] at h
    exact h
  have hbV : Below w.heap.size w V := by rw [hV]; exact bon hbw2 hbAE
  have hsV : w2.heap.size + 1 ≤ V.heap.size := by rw [hV]; simp
  clear hT0 hT1 hC hR hX hbA hbE hbAE HOwn
  obtain ⟨D1, f1, w3, x1, r1, g1, b1⟩ := app_csN (c := d2) hE (inC_take (HIN.out.next hbV (Nat.le_refl _)) (Nat.le_of_lt hk)) hsV (by omega) (by omega) rfl
  have hS3 := hS.row hE g1
  have hb3 := hbV.trans (b1.mono (by omega))
  rw [Nat.zero_add, List.nil_append] at r1
  rw [Nat.zero_add] at x1
  obtain ⟨D2, f2, w4, x2, r2, g2, b2⟩ := app_csN (A := some ⟨q, 0, none⟩) (n := 0) (c := 0) (B := 0) (xs := []) r1 ⟨rfl, fun j x hj => by simp at hj⟩ (Nat.le_trans hsV b1.size) (by omega) (by omega) (by rw [List.length_take]; omega)
  have hS4 := hS3.row r1 g2
  have hb4 := hb3.trans (b2.mono (by omega))
  rw [Nat.add_zero, List.append_nil] at r2
  rw [Nat.add_zero] at x2
  have X1 := Lib.hid x1
  have X2 := Lib.hid x2
  have hne : w.heap.size ≠ w2.heap.size := by omega
  have p2 := (HP.out.next hbV).cell 2
  simp at p2
  have hkd : k ≤ d2 := by omega
  have z2 := hS4.hg.cell 2
  have y2 := hS4.hg.frozen 2
  simp at z2
  have hS5 := hS4.set hne 2 (.slice D2 k f2)
  have hb5 := hb4.setCell (p := ⟨w2.heap.size, 2, none⟩) (show w.heap.size ≤ w2.heap.size by omega) (.slice D2 k f2)
  have r5 := own_kept (w' := w4.setCell ⟨w2.heap.size, 2, none⟩ (.slice D2 k f2)) r2 (r := some w2.heap.size) only_set (blk_not hS4.hg (by decide))
  have hsw5 : w2.heap.size + 1 ≤ w4.heap.size := Nat.le_trans hsV (Nat.le_trans b1.size b2.size)
  subst hV
  clear x1 x2 hS hS3 hS4 hE r1 r2 g1 g2
  go_upto_region 4 with (at_builtin; first | (refine Lib.wpList_append_run ((w2.alloc (.cells #[.slice C0 t0.length e0, .slice C1 t1.length e1, .slice C2 t2.length e2, .slice C3 t3.length e3] 32)).alloc (.cells #[] 65)) rfl _ _ _ _ rfl _ _ rfl rfl _ _ X1.out ?_) | (refine Lib.wpList_append_run w3 rfl _ _ _ _ rfl _ _ rfl rfl _ _ X2.out ?_) | fail)
  have hsz5 : w4.heap.size = (w4.setCell ⟨w2.heap.size, 2, none⟩ (.slice D2 k f2)).heap.size := by simp
  have hS6 : SpS (w4.setCell ⟨w2.heap.size, 2, none⟩ (.slice D2 k f2)) w2.heap.size w.heap.size W.heap.size #[.slice C0 t0.length e0, .slice C1 t1.length e1, .slice D2 k f2, .slice C3 t3.length e3] C0 C1 (.slice C3 t3.length e3) t0 t1 t3 := by simpa using hS5
  generalize w4.setCell ⟨w2.heap.size, 2, none⟩ (.slice D2 k f2) = w5 at hS6 hb5 r5 hsz5 ⊢
  have hsw : w2.heap.size + 1 ≤ w5.heap.size := by omega
  have HPC : Hid (BlkIs w b 32 #[.slice B0 t0.length d0, .slice B1 t1.length d1, .slice (some ⟨gB, 0, none⟩) t2.length d2, .slice B3 t3.length d3]) := HP
  have pb := (HPC.out.next hb5).cell 2
  simp at pb
  clear hS5 X1 X2 p2 z2 y2 b1 b2 hsw5 hsz5 hsV hbV hb3 hb4
  have hlim : (k : Int) + 1 ≤ (t2.length : Int) := by omega
  have wa : IntKind.i64.wrap ((k : Int) + 1) = (k : Int) + 1 := IntWalk.i64_in _ (by omega)
  have wb : (0 : Int) ≤ (k : Int) + 1 := by omega
  have wd : ((k : Int) + 1).toNat = k + 1 := by omega
  have pd : w5.drew.cell? ⟨b, 2, none⟩ = some (.slice (some ⟨gB, 0, none⟩) t2.length d2) := pb
  have hS6d : SpS w5.drew w2.heap.size w.heap.size W.heap.size #[.slice C0 t0.length e0, .slice C1 t1.length e1, .slice D2 k f2, .slice C3 t3.length e3] C0 C1 (.slice C3 t3.length e3) t0 t1 t3 := ⟨hS6.hg, hS6.hx, hS6.h0, hS6.h1, hS6.h3⟩
  have r5d : w5.drew.ownsRow (w2.heap.size + 1) 65 2 (.slice D2 k f2) k (flatC (t2.take k)) := r5
  have hb5d : Below w.heap.size w w5.drew := hb5.drew
  have hswd : w2.heap.size + 1 ≤ w5.drew.heap.size := hsw
  have hLl : (t2.take k ++ t2.drop (k + 1)).length = t2.length - 1 := by rw [List.length_append, List.length_take, List.length_drop]; omega
  have hAp : ∀ (A : Option Addr) (c : Nat), InC w5.drew w.heap.size A (t2.length - (k + 1)) (t2.drop (k + 1)) → ∃ (D3 : Option Addr) (f3 : Nat) (w6 : World), (Builtin.append_ #[29, 29] 29 #[.slice D2 k f2, .slice A (t2.length - (k + 1)) c]).run Tryz.prog w5.drew = .ok (.slice D3 (t2.length - 1) f3) w6 ∧ w6.ownsRow (w2.heap.size + 1) 65 2 (.slice D3 (t2.length - 1) f3) (t2.length - 1) (flatC (t2.take k ++ t2.drop (k + 1))) ∧
      SpS w6 w2.heap.size w.heap.size W.heap.size #[.slice C0 t0.length e0, .slice C1 t1.length e1, .slice D2 k f2, .slice C3 t3.length e3] C0 C1 (.slice C3 t3.length e3) t0 t1 t3 ∧ Below w.heap.size w w6 := by
    intro A c hA
    obtain ⟨D3, f3, w6, x3, r3, g3, b3⟩ := app_csN (c := c) r5d hA hswd (by omega) (by omega) (by rw [List.length_take]; omega)
    rw [show k + (t2.length - (k + 1)) = t2.length - 1 by omega] at x3 r3
    exact ⟨D3, f3, w6, x3, r3, hS6d.row r5d g3, hb5d.trans (b3.mono (by omega))⟩
  have HAp := Lib.hid hAp
  have HLL := Lib.hid hLl
  clear hAp hLl r5 hS6 hb5 hsw pb
  go_cut [] (fun wx => ∃ D3 f3, SpS wx w2.heap.size w.heap.size W.heap.size #[.slice C0 t0.length e0, .slice C1 t1.length e1, .slice D3 (t2.length - 1) f3, .slice C3 t3.length e3] C0 C1 (.slice C3 t3.length e3) t0 t1 t3 ∧ wx.ownsRow (w2.heap.size + 1) 65 2 (.slice D3 (t2.length - 1) f3) (t2.length - 1) (flatC (t2.take k ++ t2.drop (k + 1))) ∧ Below w.heap.size w wx)
  case first =>
    have hS6 := hS6d
    by_cases hdk : d2 = k + 1
    · subst hdk
      have hkz : (k : Int) ≤ (k : Int) + 1 := by omega
      obtain ⟨D3, f3, w6, x3, r3, hS7, hb7⟩ := HAp.out (some ⟨gB, 0, none⟩) 0 ⟨by rw [List.length_drop], fun j x hj => by rw [List.getElem?_drop] at hj; have := (List.getElem?_eq_some_iff.1 hj).1; omega⟩
      rw [show t2.length - (k + 1) = 0 by omega] at x3
      have pb6 := (HPC.out.next hb7).cell 2
      simp at pb6
      clear HAp
      refine wp_region_held_drew (S := fun w' => w'.cell? ⟨b, 2, none⟩ = some (.slice (some ⟨gB, 0, none⟩) t2.length (k + 1))) (by kernel_rfl) pd ?_
      intro hHeld0
      refine wpAnyH_take (i := 0) (v := ?_) rfl (by kernel_rfl) (by kernel_rfl) (by kernel_rfl) (fun _ _ _ h => h) (Or.inl ⟨by kernel_rfl, ?_⟩) (by assumption) ?_
      rotate_left
      · intro w9 hS9; (try dsimp only at hS9); go_simp; (try with_reducible rfl)
      set_option linter.unusedSimpArgs false in try simp only [Act.put, List.getElem_toArray, List.getElem_cons_succ, List.getElem_cons_zero, List.setIfInBounds_toArray, List.set_cons_zero, List.set_cons_succ]
      refine wpAnyH_take (i := 2) (v := ?_) rfl (by kernel_rfl) (by kernel_rfl) (by kernel_rfl) (fun _ _ _ h => h) (Or.inl ⟨by kernel_rfl, ?_⟩) (by assumption) ?_
      rotate_left
      · intro w9 hS9; (try dsimp only at hS9); go_simp; (try with_reducible rfl)
      set_option linter.unusedSimpArgs false in try simp only [Act.put, List.getElem_toArray, List.getElem_cons_succ, List.getElem_cons_zero, List.setIfInBounds_toArray, List.set_cons_zero, List.set_cons_succ]
      refine wpAnyH_take (i := 3) (v := ?_) rfl (by kernel_rfl) (by kernel_rfl) (by kernel_rfl) (fun _ _ _ h => h) (Or.inl ⟨by kernel_rfl, ?_⟩) (by assumption) ?_
      rotate_left
      · intro w9 hS9; (try dsimp only at hS9); go_simp; (try with_reducible rfl)
      set_option linter.unusedSimpArgs false in try simp only [Act.put, List.getElem_toArray, List.getElem_cons_succ, List.getElem_cons_zero, List.setIfInBounds_toArray, List.set_cons_zero, List.set_cons_succ]
      refine wpAnyH_take (i := 4) (v := ?_) rfl (by kernel_rfl) (by kernel_rfl) (by kernel_rfl) (fun _ _ _ h => h) (Or.inl ⟨by kernel_rfl, ?_⟩) (by assumption) ?_
      rotate_left
      · intro w9 hS9; (try dsimp only at hS9); go_simp; (try with_reducible rfl)
      set_option linter.unusedSimpArgs false in try simp only [Act.put, List.getElem_toArray, List.getElem_cons_succ, List.getElem_cons_zero, List.setIfInBounds_toArray, List.set_cons_zero, List.set_cons_succ]
      refine wpAnyH_take (i := 5) (v := ?_) rfl (by kernel_rfl) (by kernel_rfl) (by kernel_rfl) (fun _ _ _ h => h) (Or.inl ⟨by kernel_rfl, ?_⟩) (by assumption) ?_
      rotate_left
      · intro w9 hS9; (try dsimp only at hS9); go_simp; (try with_reducible rfl)
      set_option linter.unusedSimpArgs false in try simp only [Act.put, List.getElem_toArray, List.getElem_cons_succ, List.getElem_cons_zero, List.setIfInBounds_toArray, List.set_cons_zero, List.set_cons_succ]
      refine wpAnyH_take (i := 6) (v := ?_) rfl (by kernel_rfl) (by kernel_rfl) (by kernel_rfl) (fun _ _ _ h => h) (Or.inl ⟨by kernel_rfl, ?_⟩) (by assumption) ?_
      rotate_left
      · intro w9 hS9; (try dsimp only at hS9); go_simp; (try with_reducible rfl)
      set_option linter.unusedSimpArgs false in try simp only [Act.put, List.getElem_toArray, List.getElem_cons_succ, List.getElem_cons_zero, List.setIfInBounds_toArray, List.set_cons_zero, List.set_cons_succ]
      refine wpAnyH_take (i := 7) (v := ?_) rfl (by kernel_rfl) (by kernel_rfl) (by kernel_rfl) (fun _ _ _ h => h) (Or.inl ⟨by kernel_rfl, ?_⟩) (by assumption) ?_
      rotate_left
      · intro w9 hS9; (try dsimp only at hS9); go_simp; (try with_reducible rfl)
      set_option linter.unusedSimpArgs false in try simp only [Act.put, List.getElem_toArray, List.getElem_cons_succ, List.getElem_cons_zero, List.setIfInBounds_toArray, List.set_cons_zero, List.set_cons_succ]
      refine wpAnyH_take (i := 8) (v := ?_) rfl (by kernel_rfl) (by kernel_rfl) (by kernel_rfl) (fun _ _ _ h => h) (Or.inl ⟨by kernel_rfl, ?_⟩) (by assumption) ?_
      rotate_left
      · intro w9 hS9; (try dsimp only at hS9); go_simp; (try with_reducible rfl)
      set_option linter.unusedSimpArgs false in try simp only [Act.put, List.getElem_toArray, List.getElem_cons_succ, List.getElem_cons_zero, List.setIfInBounds_toArray, List.set_cons_zero, List.set_cons_succ]
      refine wpAnyH_take (i := 9) (v := ?_) rfl (by kernel_rfl) (by kernel_rfl) (by kernel_rfl) (fun _ _ _ h => h) (Or.inl ⟨by kernel_rfl, ?_⟩) (by assumption) ?_
      rotate_left
      · intro w9 hS9; (try dsimp only at hS9); go_simp; (try with_reducible rfl)
      set_option linter.unusedSimpArgs false in try simp only [Act.put, List.getElem_toArray, List.getElem_cons_succ, List.getElem_cons_zero, List.setIfInBounds_toArray, List.set_cons_zero, List.set_cons_succ]
      refine wpAnyH_ready (rs := [1]) (by kernel_rfl) (by simp) ?_
      refine AllReadyH.cons rfl (fun K hK => ?_) (AllReadyH.nil)
      have z1 := hS6.hg.cell 2
      simp at z1
      go_simp
      refine hK.out _ _ pd (fun hHeld2 => ?_)
      clear hK K hHeld0
      set_option linter.unusedSimpArgs false in try simp only [Act.put, List.getElem_toArray, List.getElem_cons_succ, List.getElem_cons_zero, List.setIfInBounds_toArray, List.set_cons_zero, List.set_cons_succ]
      refine wpAnyH_ready (rs := [10]) (by kernel_rfl) (by simp) ?_
      refine AllReadyH.cons rfl (fun K hK => ?_) (AllReadyH.nil)
      refine Eq.mpr (if_pos (by kernel_rfl)) ?_
      refine wp_app_run _ _ 29 rfl (.slice D2 k f2) (.slice (some ⟨gB, 0, none⟩) 0 0) rfl rfl (.slice D3 (t2.length - 1) f3) w6 x3 ?_
      clear x3
      refine hK.out _ _ pb6 (fun hHeld3 => ?_)
      clear hK K hHeld2
      set_option linter.unusedSimpArgs false in try simp only [Act.put, List.getElem_toArray, List.getElem_cons_succ, List.getElem_cons_zero, List.setIfInBounds_toArray, List.set_cons_zero, List.set_cons_succ]
      refine wpAnyH_take (i := 11) (v := ?_) rfl (by kernel_rfl) (by kernel_rfl) (by kernel_rfl) (fun _ _ _ h => h) (Or.inl ⟨by kernel_rfl, ?_⟩) (by assumption) ?_
      rotate_left
      · intro w9 hS9; (try dsimp only at hS9); go_simp; (try with_reducible rfl)
      set_option linter.unusedSimpArgs false in try simp only [Act.put, List.getElem_toArray, List.getElem_cons_succ, List.getElem_cons_zero, List.setIfInBounds_toArray, List.set_cons_zero, List.set_cons_succ]
      refine wpAnyH_ready (rs := [12]) (by kernel_rfl) (by simp) ?_
      refine AllReadyH.cons rfl (fun K hK => ?_) (AllReadyH.nil)
      have z2 := hS7.hg.cell 2
      have f2_ := hS7.hg.frozen 2
      simp at z2
      have hS8 := hS7.set hne 2 (.slice D3 (t2.length - 1) f3)
      have hb8 := hb7.setCell (p := ⟨w2.heap.size, 2, none⟩) (show w.heap.size ≤ w2.heap.size by omega) (.slice D3 (t2.length - 1) f3)
      have r8 := own_kept (w' := w6.setCell ⟨w2.heap.size, 2, none⟩ (.slice D3 (t2.length - 1) f3)) r3 (r := some w2.heap.size) only_set (blk_not hS7.hg (by decide))
      have pb8 := (HPC.out.next hb8).cell 2
      simp at pb8
      go_simp
      refine hK.out _ _ pb8 (fun hHeld4 => ?_)
      clear hK K hHeld3
      set_option linter.unusedSimpArgs false in try simp only [Act.put, List.getElem_toArray, List.getElem_cons_succ, List.getElem_cons_zero, List.setIfInBounds_toArray, List.set_cons_zero, List.set_cons_succ]
      refine wpAnyH_done (by kernel_rfl) ?_ _
      go_wp2_with fail
      go_meet
      exact ⟨_, _, by simpa using hS8, r8, hb8⟩
    · obtain ⟨D3, f3, w6, x3, r3, hS7, hb7⟩ := HAp.out (some ⟨gB, (k + 1) * 2, none⟩) (d2 - (k + 1)) (inC_drop (HIN.out.next hb5d (Nat.le_refl _)))
      have pb6 := (HPC.out.next hb7).cell 2
      simp at pb6
      clear HAp
      refine wp_region_held_drew (S := fun w' => w'.cell? ⟨b, 2, none⟩ = some (.slice (some ⟨gB, 0, none⟩) t2.length d2)) (by kernel_rfl) pd ?_
      intro hHeld0
      refine wpAnyH_take (i := 0) (v := ?_) rfl (by kernel_rfl) (by kernel_rfl) (by kernel_rfl) (fun _ _ _ h => h) (Or.inl ⟨by kernel_rfl, ?_⟩) (by assumption) ?_
      rotate_left
      · intro w9 hS9; (try dsimp only at hS9); go_simp; (try with_reducible rfl)
      set_option linter.unusedSimpArgs false in try simp only [Act.put, List.getElem_toArray, List.getElem_cons_succ, List.getElem_cons_zero, List.setIfInBounds_toArray, List.set_cons_zero, List.set_cons_succ]
      refine wpAnyH_take (i := 2) (v := ?_) rfl (by kernel_rfl) (by kernel_rfl) (by kernel_rfl) (fun _ _ _ h => h) (Or.inl ⟨by kernel_rfl, ?_⟩) (by assumption) ?_
      rotate_left
      · intro w9 hS9; (try dsimp only at hS9); go_simp; (try with_reducible rfl)
      set_option linter.unusedSimpArgs false in try simp only [Act.put, List.getElem_toArray, List.getElem_cons_succ, List.getElem_cons_zero, List.setIfInBounds_toArray, List.set_cons_zero, List.set_cons_succ]
      refine wpAnyH_take (i := 3) (v := ?_) rfl (by kernel_rfl) (by kernel_rfl) (by kernel_rfl) (fun _ _ _ h => h) (Or.inl ⟨by kernel_rfl, ?_⟩) (by assumption) ?_
      rotate_left
      · intro w9 hS9; (try dsimp only at hS9); go_simp; (try with_reducible rfl)
      set_option linter.unusedSimpArgs false in try simp only [Act.put, List.getElem_toArray, List.getElem_cons_succ, List.getElem_cons_zero, List.setIfInBounds_toArray, List.set_cons_zero, List.set_cons_succ]
      refine wpAnyH_take (i := 4) (v := ?_) rfl (by kernel_rfl) (by kernel_rfl) (by kernel_rfl) (fun _ _ _ h => h) (Or.inl ⟨by kernel_rfl, ?_⟩) (by assumption) ?_
      rotate_left
      · intro w9 hS9; (try dsimp only at hS9); go_simp; (try with_reducible rfl)
      set_option linter.unusedSimpArgs false in try simp only [Act.put, List.getElem_toArray, List.getElem_cons_succ, List.getElem_cons_zero, List.setIfInBounds_toArray, List.set_cons_zero, List.set_cons_succ]
      refine wpAnyH_take (i := 5) (v := ?_) rfl (by kernel_rfl) (by kernel_rfl) (by kernel_rfl) (fun _ _ _ h => h) (Or.inl ⟨by kernel_rfl, ?_⟩) (by assumption) ?_
      rotate_left
      · intro w9 hS9; (try dsimp only at hS9); go_simp; (try with_reducible rfl)
      set_option linter.unusedSimpArgs false in try simp only [Act.put, List.getElem_toArray, List.getElem_cons_succ, List.getElem_cons_zero, List.setIfInBounds_toArray, List.set_cons_zero, List.set_cons_succ]
      refine wpAnyH_take (i := 6) (v := ?_) rfl (by kernel_rfl) (by kernel_rfl) (by kernel_rfl) (fun _ _ _ h => h) (Or.inl ⟨by kernel_rfl, ?_⟩) (by assumption) ?_
      rotate_left
      · intro w9 hS9; (try dsimp only at hS9); go_simp; (try with_reducible rfl)
      set_option linter.unusedSimpArgs false in try simp only [Act.put, List.getElem_toArray, List.getElem_cons_succ, List.getElem_cons_zero, List.setIfInBounds_toArray, List.set_cons_zero, List.set_cons_succ]
      refine wpAnyH_take (i := 7) (v := ?_) rfl (by kernel_rfl) (by kernel_rfl) (by kernel_rfl) (fun _ _ _ h => h) (Or.inl ⟨by kernel_rfl, ?_⟩) (by assumption) ?_
      rotate_left
      · intro w9 hS9; (try dsimp only at hS9); go_simp; (try with_reducible rfl)
      set_option linter.unusedSimpArgs false in try simp only [Act.put, List.getElem_toArray, List.getElem_cons_succ, List.getElem_cons_zero, List.setIfInBounds_toArray, List.set_cons_zero, List.set_cons_succ]
      refine wpAnyH_take (i := 8) (v := ?_) rfl (by kernel_rfl) (by kernel_rfl) (by kernel_rfl) (fun _ _ _ h => h) (Or.inl ⟨by kernel_rfl, ?_⟩) (by assumption) ?_
      rotate_left
      · intro w9 hS9; (try dsimp only at hS9); go_simp; (try with_reducible rfl)
      set_option linter.unusedSimpArgs false in try simp only [Act.put, List.getElem_toArray, List.getElem_cons_succ, List.getElem_cons_zero, List.setIfInBounds_toArray, List.set_cons_zero, List.set_cons_succ]
      refine wpAnyH_take (i := 9) (v := ?_) rfl (by kernel_rfl) (by kernel_rfl) (by kernel_rfl) (fun _ _ _ h => h) (Or.inl ⟨by kernel_rfl, ?_⟩) (by assumption) ?_
      rotate_left
      · intro w9 hS9; (try dsimp only at hS9); go_simp; (try with_reducible rfl)
      set_option linter.unusedSimpArgs false in try simp only [Act.put, List.getElem_toArray, List.getElem_cons_succ, List.getElem_cons_zero, List.setIfInBounds_toArray, List.set_cons_zero, List.set_cons_succ]
      refine wpAnyH_ready (rs := [1]) (by kernel_rfl) (by simp) ?_
      refine AllReadyH.cons rfl (fun K hK => ?_) (AllReadyH.nil)
      have z1 := hS6.hg.cell 2
      simp at z1
      go_simp
      refine hK.out _ _ pd (fun hHeld2 => ?_)
      clear hK K hHeld0
      set_option linter.unusedSimpArgs false in try simp only [Act.put, List.getElem_toArray, List.getElem_cons_succ, List.getElem_cons_zero, List.setIfInBounds_toArray, List.set_cons_zero, List.set_cons_succ]
      refine wpAnyH_ready (rs := [10]) (by kernel_rfl) (by simp) ?_
      refine AllReadyH.cons rfl (fun K hK => ?_) (AllReadyH.nil)
      refine Eq.mpr (if_pos (by kernel_rfl)) ?_
      refine wp_app_run _ _ 29 rfl (.slice D2 k f2) (.slice (some ⟨gB, (k + 1) * 2, none⟩) (t2.length - (k + 1)) (d2 - (k + 1))) rfl rfl (.slice D3 (t2.length - 1) f3) w6 x3 ?_
      clear x3
      refine hK.out _ _ pb6 (fun hHeld3 => ?_)
      clear hK K hHeld2
      set_option linter.unusedSimpArgs false in try simp only [Act.put, List.getElem_toArray, List.getElem_cons_succ, List.getElem_cons_zero, List.setIfInBounds_toArray, List.set_cons_zero, List.set_cons_succ]
      refine wpAnyH_take (i := 11) (v := ?_) rfl (by kernel_rfl) (by kernel_rfl) (by kernel_rfl) (fun _ _ _ h => h) (Or.inl ⟨by kernel_rfl, ?_⟩) (by assumption) ?_
      rotate_left
      · intro w9 hS9; (try dsimp only at hS9); go_simp; (try with_reducible rfl)
      set_option linter.unusedSimpArgs false in try simp only [Act.put, List.getElem_toArray, List.getElem_cons_succ, List.getElem_cons_zero, List.setIfInBounds_toArray, List.set_cons_zero, List.set_cons_succ]
      refine wpAnyH_ready (rs := [12]) (by kernel_rfl) (by simp) ?_
      refine AllReadyH.cons rfl (fun K hK => ?_) (AllReadyH.nil)
      have z2 := hS7.hg.cell 2
      have f2_ := hS7.hg.frozen 2
      simp at z2
      have hS8 := hS7.set hne 2 (.slice D3 (t2.length - 1) f3)
      have hb8 := hb7.setCell (p := ⟨w2.heap.size, 2, none⟩) (show w.heap.size ≤ w2.heap.size by omega) (.slice D3 (t2.length - 1) f3)
      have r8 := own_kept (w' := w6.setCell ⟨w2.heap.size, 2, none⟩ (.slice D3 (t2.length - 1) f3)) r3 (r := some w2.heap.size) only_set (blk_not hS7.hg (by decide))
      have pb8 := (HPC.out.next hb8).cell 2
      simp at pb8
      go_simp
      refine hK.out _ _ pb8 (fun hHeld4 => ?_)
      clear hK K hHeld3
      set_option linter.unusedSimpArgs false in try simp only [Act.put, List.getElem_toArray, List.getElem_cons_succ, List.getElem_cons_zero, List.setIfInBounds_toArray, List.set_cons_zero, List.set_cons_succ]
      refine wpAnyH_done (by kernel_rfl) ?_ _
      go_wp2_with fail
      go_meet
      exact ⟨_, _, by simpa using hS8, r8, hb8⟩
  case rest =>
    obtain ⟨D3, f3, hS, hr, hb⟩ := hcut
    obtain ⟨L, YL⟩ : ∃ x, Hid (t2.take k ++ t2.drop (k + 1) = x) := ⟨_, Lib.hid rfl⟩
    have hLb : Hid (BndC L) := by
      show BndC L
      rw [← YL.out]
      intro x hx
      rcases List.mem_append.1 hx with hx | hx
      · exact HBC.out x (List.mem_of_mem_take hx)
      · exact HBC.out x (List.mem_of_mem_drop hx)
    have hLn : L.length = t2.length - 1 := by rw [← YL.out]; exact HLL.out
    rw [YL.out] at hr
    rw [← turned_zero (subI k) L, ← hLn] at hr
    rw [← hLn] at hS
    have HEnd : Hid (leaveC k t2 = L.map (subI k)) := by show leaveC k t2 = _; rw [← YL.out]; rfl
    have hLl : L.length ≤ 1000 := by omega
    have HPE : Hid (leaveP k t3 = t3.map (subP k)) := rfl
    clear HAp HLL HBC YL hLn hS6d r5d hb5d hswd pd wa wb wd hlim hkd
    go_wp2_with fail
    go_loopw [11] (fun i wr => ∃ j : Nat, j ≤ L.length ∧ i = .int .i64 j ∧ SpS wr w2.heap.size w.heap.size W.heap.size #[.slice C0 t0.length e0, .slice C1 t1.length e1, .slice D3 L.length f3, .slice C3 t3.length e3] C0 C1 (.slice C3 t3.length e3) t0 t1 t3 ∧ wr.ownsRow (w2.heap.size + 1) 65 2 (.slice D3 L.length f3) L.length (flatC (turned (subI k) L j)) ∧ Below w.heap.size w wr) (fun i _ => L.length - (intOf i).toNat)
    case atStart => exact ⟨0, Nat.zero_le _, rfl, hS, hr, hb⟩
    case round =>
      clear hS hr hb
      obtain ⟨j, hj, rfl, hS, hr, hb⟩ := hrel
      by_cases hlt : j < L.length
      · obtain ⟨x, hx⟩ : ∃ x, L[j]? = some x := ⟨_, List.getElem?_eq_getElem hlt⟩
        have hxb := hLb.out x (List.mem_of_getElem? hx)
        obtain ⟨g3, rfl, hcap3, hg3⟩ := ownC_cap hr (by omega)
        obtain ⟨c0, c1⟩ := flatC_at (turned_at (subI k) hx)
        have z2 := hS.hg.cell 2
        simp at z2
        have hll : (turned (subI k) L j).length = L.length := turned_len _ _ _
        have q0 := hr.cellAt (j * 2) (by omega)
        have q1 := hr.cellAt (j * 2 + 1) (by omega)
        rw [c0] at q0
        rw [c1] at q1
        have hbx := bnew wr (.cells #[.int .i64 x.1, .int .i64 x.2] 65)
        by_cases hjmp : x.1 = 5 ∨ x.1 = 6
        · have HJ0 := l09Jumps_c x.1 x.2 wr
          rw [decide_eq_true hjmp] at HJ0
          have HJ := Lib.hid HJ0
          by_cases hgt : (k : Int) < x.2
          · have HT := Lib.hid (turned_succ (subI k) hx)
            have HY := Lib.hid (subI_yes (k := (k : Int)) ⟨hjmp, hgt⟩)
            have HX := Lib.hid (turned_at (subI k) hx)
            clear HJ0 hx hjmp c0 c1 hll
            go_wp2_with fail
            refine HJ.out.mono ?_
            rintro e w7 ⟨rfl, hb7⟩
            have hS7 := hS.next hb7
            have hr7 := own_below hr hb7
            have u2 := cell_next z2 hb7
            have u0 := cell_next q0 hb7
            have u1 := cell_next q1 hb7
            have v1 := hr7.frozenAt (j * 2 + 1)
            have hst := (hr7.stored (j * 2 + 1) (.int .i64 (x.2 - 1))).1
            rw [flatC_set2 (x.2 - 1) HX.out, ← HY.out, HT.out] at hst
            have hS8 := hS7.row hr7 (u' := w7.setCell ⟨g3, j * 2 + 1, none⟩ (.int .i64 (x.2 - 1))) (only_set (g := g3))
            have hb8 := (bon hb hb7).setCell (p := ⟨g3, j * 2 + 1, none⟩) (show w.heap.size ≤ g3 by omega) (.int .i64 (x.2 - 1))
            clear HT HY HX hS7 hr7 hS hr
            go_wp2_with fail
            go_roundw
            case rel => exact ⟨j + 1, by omega, by go_num, hS8, hst, hb8⟩
            case measure => simp [intOf]; omega
          · have HT := Lib.hid (turned_same (subI k) hx (subI_no (k := (k : Int)) (fun h => hgt h.2)))
            clear HJ0 hx hjmp c0 c1 hll
            go_wp2_with fail
            refine HJ.out.mono ?_
            rintro e w7 ⟨rfl, hb7⟩
            have hS7 := hS.next hb7
            have hr7 := own_below hr hb7
            rw [HT.out] at hr7
            have u2 := cell_next z2 hb7
            have u1 := cell_next q1 hb7
            have hb8 := bon hb hb7
            clear HT hS hr
            go_wp2_with fail
            go_roundw
            case rel => exact ⟨j + 1, by omega, by go_num, hS7, hr7, hb8⟩
            case measure => simp [intOf]; omega
        · have HJ0 := l09Jumps_c x.1 x.2 wr
          rw [decide_eq_false hjmp] at HJ0
          have HJ := Lib.hid HJ0
          have HT := Lib.hid (turned_same (subI k) hx (subI_no (k := (k : Int)) (fun h => hjmp h.1)))
          clear HJ0 hx hjmp c0 c1 hll
          go_wp2_with fail
          refine HJ.out.mono ?_
          rintro e w7 ⟨rfl, hb7⟩
          have hS7 := hS.next hb7
          have hr7 := own_below hr hb7
          rw [HT.out] at hr7
          have hb8 := bon hb hb7
          clear HT hS hr
          go_wp2_with fail
          go_roundw
          case rel => exact ⟨j + 1, by omega, by go_num, hS7, hr7, hb8⟩
          case measure => simp [intOf]; omega
      · have e : j = L.length := by omega
        subst e
        rw [turned_all _ (Nat.le_refl _), ← HEnd.out] at hr
        have z2 := hS.hg.cell 2
        have z3 := hS.hg.cell 3
        simp at z2 z3
        have hS0 : SpS wr w2.heap.size w.heap.size W.heap.size #[.slice C0 t0.length e0, .slice C1 t1.length e1, .slice D3 L.length f3, .slice C3 t3.length e3] C0 C1 (.slice C3 t3.length e3) t0 t1 (mixF (subP k) 0 t3) := hS
        have hCr : wr.ownsRow (w2.heap.size + 1) 65 2 (.slice D3 (leaveC k t2).length f3) (leaveC k t2).length (flatC (leaveC k t2)) := by
          have e : (leaveC k t2).length = L.length := by rw [HEnd.out, List.length_map]
          rw [e]; exact hr
        have HLn : Hid (L.length = (leaveC k t2).length) := by show _ = _; rw [HEnd.out, List.length_map]
        clear hS hlt hr
        go_wp2_with fail
        go_loopw [12] (fun i wr => ∃ j : Nat, j ≤ t3.length ∧ i = .int .i64 j ∧ SpS wr w2.heap.size w.heap.size W.heap.size #[.slice C0 t0.length e0, .slice C1 t1.length e1, .slice D3 L.length f3, .slice C3 t3.length e3] C0 C1 (.slice C3 t3.length e3) t0 t1 (mixF (subP k) j t3) ∧ wr.ownsRow (w2.heap.size + 1) 65 2 (.slice D3 (leaveC k t2).length f3) (leaveC k t2).length (flatC (leaveC k t2)) ∧ Below w.heap.size w wr) (fun i _ => t3.length - (intOf i).toNat)
        case atStart => exact ⟨0, Nat.zero_le _, rfl, hS0, hCr, hb⟩
        case round =>
          clear hS0 hCr hb z2 z3
          obtain ⟨j, hj, rfl, hS, hr, hb⟩ := hrel
          by_cases hlt : j < t3.length
          · obtain ⟨p, hp⟩ : ∃ p, t3[j]? = some p := ⟨_, List.getElem?_eq_getElem hlt⟩
            have hpb := HBP.out p (List.mem_of_getElem? hp)
            have h3 := hS.h3
            rw [mixF_len] at h3
            obtain ⟨g4, rfl, hcap4⟩ := h3.cap (by omega)
            have hg4 : W.heap.size ≤ g4 := by
              obtain ⟨_, cs', ho, _⟩ := h3
              exact (ho.lt g4 rfl).1
            obtain ⟨_, cs', ho, hc⟩ := h3
            obtain ⟨c0, _⟩ := hc j p (mixF_at hp)
            have hcl := ho.1
            have q0 := ho.cellAt (j * 2) (by omega)
            rw [c0] at q0
            have v0 := ho.frozenAt (j * 2)
            have z3 := hS.hg.cell 3
            simp at z3
            by_cases hgt : (k : Int) < p.a
            · have HY := Lib.hid (subP_yes (k := (k : Int)) hgt)
              have HT := Lib.hid (mixF_set (f := subP k) hp)
              have hS8 := hS.setP (z := p.a - 1) (mixF_len _ _ _) (mixF_at hp)
              rw [← HY.out, HT.out] at hS8
              have hr8 := own_kept (w' := wr.setCell ⟨g4, j * 2, none⟩ (.int .i64 (p.a - 1))) hr (r := (Value.slice (some ⟨g4, 0, none⟩) t3.length e3).ownBlock) (only_set (g := g4)) (own_not ho (by decide))
              have hb8 := hb.setCell (p := ⟨g4, j * 2, none⟩) (show w.heap.size ≤ g4 by omega) (.int .i64 (p.a - 1))
              clear hS hr ho hc c0 HT HY hp
              go_wp2_with fail
              go_roundw
              case rel => exact ⟨j + 1, by omega, by go_num, hS8, hr8, hb8⟩
              case measure => simp [intOf]; omega
            · have HT := Lib.hid (mixF_same (f := subP k) hp (subP_no (k := (k : Int)) hgt))
              rw [← HT.out] at hS
              clear ho hc c0 HT hp
              go_wp2_with fail
              go_roundw
              case rel => exact ⟨j + 1, by omega, by go_num, hS, hr, hb⟩
              case measure => simp [intOf]; omega
          · have e : j = t3.length := by omega
            subst e
            rw [mixF_all (Nat.le_refl _), ← HPE.out] at hS
            have z0 := hS.hg.cell 0
            have z1 := hS.hg.cell 1
            have z2 := hS.hg.cell 2
            have z3 := hS.hg.cell 3
            simp at z0 z1 z2 z3
            have hX := hS.hx
            have f0 := hX.frozen 0
            have f1 := hX.frozen 1
            have f2 := hX.frozen 2
            have f3' := hX.frozen 3
            have y0 := hX.cell 0
            have y1 := hX.cell 1
            have y2 := hX.cell 2
            have y3 := hX.cell 3
            simp at y0 y1 y2 y3
            obtain ⟨hF, hgr⟩ := fill4 hX (.slice C0 t0.length e0) (.slice C1 t1.length e1) (.slice D3 L.length f3) (.slice C3 t3.length e3)
            have r0 := hF.cell 0
            have r1 := hF.cell 1
            have r2 := hF.cell 2
            have r3 := hF.cell 3
            simp at r0 r1 r2 r3
            have hA : AnM wr w.heap.size C0 C1 D3 f3 C3 e3 t0 t1 (leaveC k t2) (leaveP k t3) := ⟨hS.h0, hS.h1, own_less hr (by omega), by
              have h := hS.h3
              rw [leaveP_len] at h ⊢
              exact h.less (by omega)⟩
            have hAF := hA.kept hgr (blk_not hX (by decide)) (blk_not hX (by decide)) (blk_not hX (by decide)) (blk_not hX (by decide))
            have hbF := hb.trans (only_below hgr (Nat.le_refl _) hb.size)
            have HAF := Lib.hid hAF
            have HPL := Lib.hid (leaveP_len k t3)
            clear hF hgr hA hAF hX hS hr hlt
            go_wp2_with fail
            refine bodyPost_ret (v := .agg #[.slice C0 t0.length e0, .slice C1 t1.length e1, .slice D3 L.length f3, .slice C3 t3.length e3]) (by simp [results, Tryz.results47, go_sem, r0, r1, r2, r3]) rfl ?_
            exact ⟨C0, e0, C1, e1, D3, f3, C3, e3, by rw [HLn.out, HPL.out], HAF.out, hbF⟩
end Go.Proofs.YtdmcpabpjhinhaaGreatDoor

/-! The program's optimiser: an instruction left out. Conditions: valid code. -/
namespace Go.Proofs.YtdmcpabpjhinhaaGreatDoor
set_option linter.unusedVariables false
open Go.RowKit

set_option maxRecDepth 100000 in
set_option maxHeartbeats 1000000 in
theorem hasPlace_o (p q : Int) (w : World) :
    Calls Tryz.prog 91 #[.agg #[.int .i64 p, .int .i64 q]] w fun e w' => e = .returned (.bool (decide (p = 5 ∨ p = 6))) ∧ Below w.heap.size w w' := by
  have hb0 := bnew w (.cells #[.int .i64 p, .int .i64 q] 65)
  by_cases h5 : p = 5
  · rw [decide_eq_true (.inl h5)]
    have e5 : (p == 5) = true := by simp [h5]
    clear h5
    go_enter Tryz.func91, Tryz.ntmps91
    go_wp2_with fail
    go_ret
    exact ⟨rfl, hb0⟩
  · have e5 : (p == 5) = false := by simp [h5]
    by_cases h6 : p = 6
    · rw [decide_eq_true (.inr h6)]
      have e6 : (p == 6) = true := by simp [h6]
      clear h5 h6
      go_enter Tryz.func91, Tryz.ntmps91
      go_wp2_with fail
      go_ret
      exact ⟨rfl, hb0⟩
    · rw [decide_eq_false (fun h => h.elim h5 h6)]
      have e6 : (p == 6) = false := by simp [h6]
      clear h5 h6
      go_enter Tryz.func91, Tryz.ntmps91
      go_wp2_with fail
      go_ret
      exact ⟨rfl, hb0⟩

theorem cut_own2 {W : World} {base : Nat} {e : TypeId} {A : Option Addr} {n c k : Nat} {xs : List Value} (h : W.ownsRow base e 2 (.slice A n c) n xs) (hk : k ≤ n) : W.ownsRow base e 2 (.slice A k c) k (xs.take (k * 2)) := by
  refine ⟨by rw [List.length_take, h.1]; omega, ?_⟩
  rcases h.2 with ⟨h', hn⟩ | ⟨g, cap, cur, h1, h2, h3, h4, h5, h6, h7⟩
  · injection h' with a b c'
    have : k = 0 := by omega
    subst this
    exact .inl ⟨by rw [a, c'], rfl⟩
  · injection h1 with a b c'
    subst c'
    exact .inr ⟨g, c, cur, by rw [a], h2, h3, by omega, h5, h6, by rw [← h7, List.take_take]; congr 1; omega⟩
theorem flatC_cut (xs : List (Int × Int)) (k : Nat) : (flatC xs).take (k * 2) = flatC (xs.take k) := by
  induction xs generalizing k with
  | nil => simp [flatC]
  | cons x xs ih =>
    cases k with
    | zero => simp [flatC]
    | succ k =>
      have := ih k
      unfold flatC at this ⊢
      rw [show (k + 1) * 2 = k * 2 + 2 by omega]
      simp only [List.flatMap_cons, List.take_succ_cons, List.cons_append, List.nil_append]
      rw [this]
theorem run_clear_C (w : World) (g o c : Nat) (ty : TypeId) (hc : ∀ j, j < 2 → (w.cell? ⟨g, o + j, none⟩).isSome = true) (hf : ∀ j, j < 2 → w.frozen? ⟨g, o + j, none⟩ = false) :
    (Builtin.clear_ #[29] ty #[.slice (some ⟨g, o, none⟩) 1 c]).run Tryz.prog w = .ok (.tuple #[]) (w.setCells g o [.int .i64 0, .int .i64 0]) := by
  have hv : ∀ w, (zeroValue 65).run Tryz.prog w = .ok (.agg #[.int .i64 0, .int .i64 0]) w := fun w => by kernel_rfl
  have hst := run_storeCells_cells (P := Tryz.prog) g o [.int .i64 0, .int .i64 0] 0 w (by simpa using hc) (by simpa using hf) (by intro v hv'; simp at hv'; subst hv'; rfl)
  simp only [Nat.add_zero] at hst
  have hzc : (Builtin.zeroCells (Value.agg #[.int .i64 0, .int .i64 0]).cells 1).toList = [.int .i64 0, .int .i64 0] := by kernel_rfl
  simp [Builtin.clear_, run_underlying Tryz.underlying29, hv, hzc, hst]

set_option maxRecDepth 100000 in
set_option maxHeartbeats 4000000 in
theorem deleteC_c (lo hi g m c k : Nat) (xs : List (Int × Int)) (w : World) (h : OwnC w lo hi (some ⟨g, 0, none⟩) (m + 1) c xs) (hk : k ≤ m) (hm : m ≤ 1000) :
    Calls Tryz.prog 90 #[.slice (some ⟨g, 0, none⟩) (m + 1) c, .int .i64 (k : Int), .int .i64 ((k : Int) + 1)] w fun e w' => e = .returned (.slice (some ⟨g, 0, none⟩) m c) ∧ OwnC w' lo hi (some ⟨g, 0, none⟩) m c (xs.take k ++ xs.drop (k + 1)) ∧ w.grownBy w' (some g) := by
  obtain ⟨i0, hi', hz0, hz1, hz2⟩ := info_parts infoInstr
  have hxl := h.1
  have hcap : m + 1 ≤ c := by
    rcases h.2.1.2 with ⟨h', hn⟩ | ⟨g', cap, cur, k1, _, _, k4, _⟩
    · omega
    · injection k1 with _ _ k1; omega
  obtain ⟨wd, hwd⟩ : ∃ x, x = w.drew := ⟨_, rfl⟩
  have hd : OwnC wd lo hi (some ⟨g, 0, none⟩) (m + 1) c xs := by rw [hwd]; exact h
  have hin : InC wd hi (some ⟨g, 0, none⟩) (m + 1) xs := hd.inn
  have hcut := cut_own2 hd.2.1 (show k ≤ m + 1 by omega)
  rw [flatC_cut] at hcut
  have hAp : ∀ (a : Addr) (cc : Nat), InC wd hi (some a) (m + 1 - (k + 1)) (xs.drop (k + 1)) → ∃ w2 w3, (Builtin.append_ #[29, 29] 29 #[.slice (some ⟨g, 0, none⟩) k c, .slice (some a) (m + 1 - (k + 1)) cc]).run Tryz.prog wd = .ok (.slice (some ⟨g, 0, none⟩) m c) w2 ∧
      (∀ ty c', (Builtin.clear_ #[29] ty #[.slice (some ⟨g, m * 2, none⟩) 1 c']).run Tryz.prog w2 = .ok (.tuple #[]) w3) ∧ OwnC w3 lo hi (some ⟨g, 0, none⟩) m c (xs.take k ++ xs.drop (k + 1)) ∧ wd.grownBy w3 (some g) := by
    intro a cc hA
    obtain ⟨w2, e1, e2, e3⟩ := run_append_fits (P := Tryz.prog) (w := wd) lo 29 29 65 i0 2 Tryz.underlying29 hi' hz1 g k c _ hcut a (m + 1 - (k + 1)) cc (flatC (xs.drop (k + 1))) (by rw [flatC_len, List.length_drop]; omega) (flatC_news hA) (flatC_one _) (by omega)
    rw [← flatC_app, show k + (m + 1 - (k + 1)) = m by omega] at e2
    rw [show k + (m + 1 - (k + 1)) = m by omega] at e1
    -- the whole block behind the append
    obtain ⟨cur, hcur, hcs⟩ : ∃ cur, w2.heap[g]? = some (.cells cur 65 (0, 0)) ∧ cur.size = c * 2 := by
      rcases e2.2 with ⟨h', _⟩ | ⟨g', cap, cur, k1, _, k3, _, _, k6, _⟩
      · cases h'
      · injection k1 with a1 a2 a3
        injection a1 with a1
        injection a1 with a1
        subst a1 a3
        exact ⟨cur, k3, k6⟩
    have hBk : BlkIs w2 g 65 cur := hcur
    have hc0 : ∀ j, j < 2 → (w2.cell? ⟨g, m * 2 + j, none⟩).isSome = true := fun j hj => by
      rw [hBk.cell, Array.getElem?_eq_getElem (by omega)]; rfl
    have hf0 : ∀ j, j < 2 → w2.frozen? ⟨g, m * 2 + j, none⟩ = false := fun j hj => hBk.frozen _
    refine ⟨w2, _, e1, fun ty c' => run_clear_C w2 g (m * 2) c' ty hc0 hf0, ?_, ?_⟩
    · have hset : (w2.setCells g (m * 2) [.int .i64 0, .int .i64 0]) = (w2.setCell ⟨g, m * 2, none⟩ (.int .i64 0)).setCell ⟨g, m * 2 + 1, none⟩ (.int .i64 0) := rfl
      rw [hset]
      have hB2 := (hBk.set (m * 2) (.int .i64 0)).set (m * 2 + 1) (.int .i64 0)
      refine ⟨by rw [List.length_append, List.length_take, List.length_drop]; omega, ?_, hd.2.2.1, by simp; have := e3.size; have := hd.2.2.2; omega⟩
      refine ⟨e2.1, .inr ⟨g, c, _, rfl, ?_, hB2, by omega, ?_, by simp [hcs], ?_⟩⟩
      · exact (hd.2.1.lt g rfl).1
      · rcases hd.2.1.2 with ⟨h', _⟩ | ⟨g', cap, cur', k1, _, _, _, k5, _⟩
        · cases h'
        · injection k1 with _ _ a3; omega
      · rcases e2.2 with ⟨h', _⟩ | ⟨g', cap, cur', k1, _, k3, _, _, k6, k7⟩
        · cases h'
        · injection k1 with a1 a2 a3
          injection a1 with a1
          injection a1 with a1
          subst a1 a3
          rw [hcur] at k3
          injection k3 with k3
          injection k3 with k3
          subst k3
          rw [← k7]
          simp only [Array.toList_setIfInBounds]
          rw [List.take_set_of_le (by omega), List.take_set_of_le (by omega)]
    · exact only_trans (only_trans e3 (only_set (g := g))) (only_set (g := g))
  have HAp := Lib.hid hAp
  have hk1 : (k : Int) + 1 ≤ (m : Int) + 1 := by omega
  have hk2 : (m : Int) + 1 ≤ (c : Int) := by omega
  have hk3 : ((k : Int) == (k : Int) + 1) = false := by simp; omega
  have hk4 : (k : Int) ≤ (k : Int) + 1 := by omega
  have hk5 : ¬ c = m := by omega
  have hk6 : (m : Int) ≤ (m : Int) + 1 := by omega
  have hk7 : k ≤ c := by omega
  have hk8 : (0 : Int) ≤ (k : Int) + 1 := by omega
  have wa : IntKind.i64.wrap ((k : Int) + 1) = (k : Int) + 1 := IntWalk.i64_in _ (by omega)
  have hIN := Lib.hid hin
  clear hAp hcut h hin hd
  by_cases hck : c = k + 1
  · subst hck
    have hkm : k = m := by omega
    obtain ⟨w2, w3, x1, hclr, hF, hG⟩ := HAp.out ⟨g, 0, none⟩ 0 ⟨by rw [List.length_drop]; omega, fun j x hj => by rw [List.getElem?_drop] at hj; have := (List.getElem?_eq_some_iff.1 hj).1; omega⟩
    rw [show m + 1 - (k + 1) = 0 by omega] at x1
    have X1 := Lib.hid x1
    have HF := Lib.hid hF
    have HG : Hid (w.grownBy w3 (some g)) := by subst hwd; exact ⟨hG.os, hG.tape, hG.output, hG.size, hG.block⟩
    subst hwd
    clear x1 hF hG HAp hkm
    go_enter Tryz.func90, Tryz.ntmps90
    go_wp2_with fail
    refine wp_region_held_drew (S := fun _ => True) (by kernel_rfl) trivial ?_
    intro hHeld0
    refine wpAnyH_take (i := 0) (v := ?_) rfl (by kernel_rfl) (by kernel_rfl) (by kernel_rfl) (fun _ _ _ h => h) (Or.inl ⟨by kernel_rfl, ?_⟩) (by assumption) ?_
    rotate_left
    · intro w9 hS9; (try dsimp only at hS9); go_simp; (try with_reducible rfl)
    set_option linter.unusedSimpArgs false in try simp only [Act.put, List.getElem_toArray, List.getElem_cons_succ, List.getElem_cons_zero, List.setIfInBounds_toArray, List.set_cons_zero, List.set_cons_succ]
    refine wpAnyH_take (i := 1) (v := ?_) rfl (by kernel_rfl) (by kernel_rfl) (by kernel_rfl) (fun _ _ _ h => h) (Or.inl ⟨by kernel_rfl, ?_⟩) (by assumption) ?_
    rotate_left
    · intro w9 hS9; (try dsimp only at hS9); go_simp; (try with_reducible rfl)
    set_option linter.unusedSimpArgs false in try simp only [Act.put, List.getElem_toArray, List.getElem_cons_succ, List.getElem_cons_zero, List.setIfInBounds_toArray, List.set_cons_zero, List.set_cons_succ]
    refine wpAnyH_take (i := 2) (v := ?_) rfl (by kernel_rfl) (by kernel_rfl) (by kernel_rfl) (fun _ _ _ h => h) (Or.inl ⟨by kernel_rfl, ?_⟩) (by assumption) ?_
    rotate_left
    · intro w9 hS9; (try dsimp only at hS9); go_simp; (try with_reducible rfl)
    set_option linter.unusedSimpArgs false in try simp only [Act.put, List.getElem_toArray, List.getElem_cons_succ, List.getElem_cons_zero, List.setIfInBounds_toArray, List.set_cons_zero, List.set_cons_succ]
    refine wpAnyH_take (i := 3) (v := ?_) rfl (by kernel_rfl) (by kernel_rfl) (by kernel_rfl) (fun _ _ _ h => h) (Or.inl ⟨by kernel_rfl, ?_⟩) (by assumption) ?_
    rotate_left
    · intro w9 hS9; (try dsimp only at hS9); go_simp; (try with_reducible rfl)
    set_option linter.unusedSimpArgs false in try simp only [Act.put, List.getElem_toArray, List.getElem_cons_succ, List.getElem_cons_zero, List.setIfInBounds_toArray, List.set_cons_zero, List.set_cons_succ]
    refine wpAnyH_take (i := 4) (v := ?_) rfl (by kernel_rfl) (by kernel_rfl) (by kernel_rfl) (fun _ _ _ h => h) (Or.inl ⟨by kernel_rfl, ?_⟩) (by assumption) ?_
    rotate_left
    · intro w9 hS9; (try dsimp only at hS9); go_simp; (try with_reducible rfl)
    set_option linter.unusedSimpArgs false in try simp only [Act.put, List.getElem_toArray, List.getElem_cons_succ, List.getElem_cons_zero, List.setIfInBounds_toArray, List.set_cons_zero, List.set_cons_succ]
    refine wpAnyH_take (i := 5) (v := ?_) rfl (by kernel_rfl) (by kernel_rfl) (by kernel_rfl) (fun _ _ _ h => h) (Or.inl ⟨by kernel_rfl, ?_⟩) (by assumption) ?_
    rotate_left
    · intro w9 hS9; (try dsimp only at hS9); go_simp; (try with_reducible rfl)
    set_option linter.unusedSimpArgs false in try simp only [Act.put, List.getElem_toArray, List.getElem_cons_succ, List.getElem_cons_zero, List.setIfInBounds_toArray, List.set_cons_zero, List.set_cons_succ]
    refine wpAnyH_ready (rs := [6]) (by kernel_rfl) (by simp) ?_
    refine AllReadyH.cons rfl (fun K hK => ?_) (AllReadyH.nil)
    refine Eq.mpr (if_pos (by kernel_rfl)) ?_
    refine wp_app_run _ _ 29 rfl (.slice (some ⟨g, 0, none⟩) k (k + 1)) (.slice (some ⟨g, 0, none⟩) 0 0) rfl rfl (.slice (some ⟨g, 0, none⟩) m (k + 1)) w2 X1.out ?_
    refine hK.out _ _ trivial (fun hHeld1 => ?_)
    clear hK K hHeld0
    set_option linter.unusedSimpArgs false in try simp only [Act.put, List.getElem_toArray, List.getElem_cons_succ, List.getElem_cons_zero, List.setIfInBounds_toArray, List.set_cons_zero, List.set_cons_succ]
    refine wpAnyH_take (i := 7) (v := ?_) rfl (by kernel_rfl) (by kernel_rfl) (by kernel_rfl) (fun _ _ _ h => h) (Or.inl ⟨by kernel_rfl, ?_⟩) (by assumption) ?_
    rotate_left
    · intro w9 hS9; (try dsimp only at hS9); go_simp; (try with_reducible rfl)
    set_option linter.unusedSimpArgs false in try simp only [Act.put, List.getElem_toArray, List.getElem_cons_succ, List.getElem_cons_zero, List.setIfInBounds_toArray, List.set_cons_zero, List.set_cons_succ]
    refine wpAnyH_done (by kernel_rfl) ?_ _
    go_wp2_with fail
    go_ret
    exact ⟨rfl, HF.out, HG.out⟩
  · obtain ⟨w2, w3, x1, hclr, hF, hG⟩ := HAp.out ⟨g, (k + 1) * 2, none⟩ (c - (k + 1)) (inC_drop hIN.out)
    rw [show m + 1 - (k + 1) = m - k by omega] at x1
    have X1 := Lib.hid x1
    have HF := Lib.hid hF
    have HG : Hid (w.grownBy w3 (some g)) := by subst hwd; exact ⟨hG.os, hG.tape, hG.output, hG.size, hG.block⟩
    subst hwd
    clear x1 hF hG HAp
    go_enter Tryz.func90, Tryz.ntmps90
    go_wp2_with fail
    refine wp_region_held_drew (S := fun _ => True) (by kernel_rfl) trivial ?_
    intro hHeld0
    refine wpAnyH_take (i := 0) (v := ?_) rfl (by kernel_rfl) (by kernel_rfl) (by kernel_rfl) (fun _ _ _ h => h) (Or.inl ⟨by kernel_rfl, ?_⟩) (by assumption) ?_
    rotate_left
    · intro w9 hS9; (try dsimp only at hS9); go_simp; (try with_reducible rfl)
    set_option linter.unusedSimpArgs false in try simp only [Act.put, List.getElem_toArray, List.getElem_cons_succ, List.getElem_cons_zero, List.setIfInBounds_toArray, List.set_cons_zero, List.set_cons_succ]
    refine wpAnyH_take (i := 1) (v := ?_) rfl (by kernel_rfl) (by kernel_rfl) (by kernel_rfl) (fun _ _ _ h => h) (Or.inl ⟨by kernel_rfl, ?_⟩) (by assumption) ?_
    rotate_left
    · intro w9 hS9; (try dsimp only at hS9); go_simp; (try with_reducible rfl)
    set_option linter.unusedSimpArgs false in try simp only [Act.put, List.getElem_toArray, List.getElem_cons_succ, List.getElem_cons_zero, List.setIfInBounds_toArray, List.set_cons_zero, List.set_cons_succ]
    refine wpAnyH_take (i := 2) (v := ?_) rfl (by kernel_rfl) (by kernel_rfl) (by kernel_rfl) (fun _ _ _ h => h) (Or.inl ⟨by kernel_rfl, ?_⟩) (by assumption) ?_
    rotate_left
    · intro w9 hS9; (try dsimp only at hS9); go_simp; (try with_reducible rfl)
    set_option linter.unusedSimpArgs false in try simp only [Act.put, List.getElem_toArray, List.getElem_cons_succ, List.getElem_cons_zero, List.setIfInBounds_toArray, List.set_cons_zero, List.set_cons_succ]
    refine wpAnyH_take (i := 3) (v := ?_) rfl (by kernel_rfl) (by kernel_rfl) (by kernel_rfl) (fun _ _ _ h => h) (Or.inl ⟨by kernel_rfl, ?_⟩) (by assumption) ?_
    rotate_left
    · intro w9 hS9; (try dsimp only at hS9); go_simp; (try with_reducible rfl)
    set_option linter.unusedSimpArgs false in try simp only [Act.put, List.getElem_toArray, List.getElem_cons_succ, List.getElem_cons_zero, List.setIfInBounds_toArray, List.set_cons_zero, List.set_cons_succ]
    refine wpAnyH_take (i := 4) (v := ?_) rfl (by kernel_rfl) (by kernel_rfl) (by kernel_rfl) (fun _ _ _ h => h) (Or.inl ⟨by kernel_rfl, ?_⟩) (by assumption) ?_
    rotate_left
    · intro w9 hS9; (try dsimp only at hS9); go_simp; (try with_reducible rfl)
    set_option linter.unusedSimpArgs false in try simp only [Act.put, List.getElem_toArray, List.getElem_cons_succ, List.getElem_cons_zero, List.setIfInBounds_toArray, List.set_cons_zero, List.set_cons_succ]
    refine wpAnyH_take (i := 5) (v := ?_) rfl (by kernel_rfl) (by kernel_rfl) (by kernel_rfl) (fun _ _ _ h => h) (Or.inl ⟨by kernel_rfl, ?_⟩) (by assumption) ?_
    rotate_left
    · intro w9 hS9; (try dsimp only at hS9); go_simp; (try with_reducible rfl)
    set_option linter.unusedSimpArgs false in try simp only [Act.put, List.getElem_toArray, List.getElem_cons_succ, List.getElem_cons_zero, List.setIfInBounds_toArray, List.set_cons_zero, List.set_cons_succ]
    refine wpAnyH_ready (rs := [6]) (by kernel_rfl) (by simp) ?_
    refine AllReadyH.cons rfl (fun K hK => ?_) (AllReadyH.nil)
    refine Eq.mpr (if_pos (by kernel_rfl)) ?_
    refine wp_app_run _ _ 29 rfl (.slice (some ⟨g, 0, none⟩) k c) (.slice (some ⟨g, (k + 1) * 2, none⟩) (m - k) (c - (k + 1))) rfl rfl (.slice (some ⟨g, 0, none⟩) m c) w2 X1.out ?_
    refine hK.out _ _ trivial (fun hHeld1 => ?_)
    clear hK K hHeld0
    set_option linter.unusedSimpArgs false in try simp only [Act.put, List.getElem_toArray, List.getElem_cons_succ, List.getElem_cons_zero, List.setIfInBounds_toArray, List.set_cons_zero, List.set_cons_succ]
    refine wpAnyH_take (i := 7) (v := ?_) rfl (by kernel_rfl) (by kernel_rfl) (by kernel_rfl) (fun _ _ _ h => h) (Or.inl ⟨by kernel_rfl, ?_⟩) (by assumption) ?_
    rotate_left
    · intro w9 hS9; (try dsimp only at hS9); go_simp; (try with_reducible rfl)
    set_option linter.unusedSimpArgs false in try simp only [Act.put, List.getElem_toArray, List.getElem_cons_succ, List.getElem_cons_zero, List.setIfInBounds_toArray, List.set_cons_zero, List.set_cons_succ]
    refine wpAnyH_done (by kernel_rfl) ?_ _
    go_wp2_with fail
    go_ret
    exact ⟨rfl, HF.out, HG.out⟩

theorem OwnP2.set_a {w : World} {lo hi n c g j : Nat} {ps : List P2} {p : P2} {z : Int} (h : OwnP2 w lo hi (some ⟨g, 0, none⟩) n c ps) (hp : ps[j]? = some p) :
    OwnP2 (w.setCell ⟨g, j * 2, none⟩ (.int .i64 z)) lo hi (some ⟨g, 0, none⟩) n c (ps.set j ⟨z, p.s⟩) := by
  obtain ⟨h1, h2, xs, f, h3, h4, h5, h6, h7, h8⟩ := h
  have hjl := (List.getElem?_eq_some_iff.1 hp).1
  have hcl := h3.1
  have hg := h4 g rfl
  have ho : Out g (g + 1) w (w.setCell ⟨g, j * 2, none⟩ (.int .i64 z)) := out_set (Out.refl _ _ _) (by omega)
  have hout : ∀ i t, ps[i]? = some t → g + 1 ≤ f i ∨ f (i + 1) ≤ g := fun i t hi => by
    have hil : i < n := by have := (List.getElem?_eq_some_iff.1 hi).1; omega
    have m1 : f 0 ≤ f i := mono_le h6 (Nat.zero_le _) (by omega)
    have m2 : f (i + 1) ≤ f n := mono_le h6 (by omega) (Nat.le_refl _)
    omega
  refine ⟨by rw [List.length_set]; exact h1, by simpa using h2, _, f, (h3.stored (j * 2) (.int .i64 z)).1, h4, h5, h6, h7, fun i t hi => ?_⟩
  rw [List.getElem?_set] at hi
  split at hi
  · rename_i e
    subst e
    obtain rfl := Option.some.inj hi
    obtain ⟨A0, n0, c0, ⟨q0, q1⟩, k0, e0⟩ := h8 j p hp
    exact ⟨A0, n0, c0, ⟨List.getElem?_set_self (by omega), by rw [List.getElem?_set_ne (by omega)]; exact q1⟩, k0.out ho (hout j p hp), e0⟩
  · rename_i e
    obtain ⟨A0, n0, c0, ⟨q0, q1⟩, k0, e0⟩ := h8 i t hi
    exact ⟨A0, n0, c0, ⟨by rw [List.getElem?_set_ne (by omega)]; exact q0, by rw [List.getElem?_set_ne (by omega)]; exact q1⟩, k0.out ho (hout i t hi), e0⟩

/-- The optimiser's block and the rows of its code. -/
structure Opt (u : World) (o lo m0 m1 m2 hi : Nat) (R0 : Option Addr) (n0 d0 : Nat) (R1 : Option Addr) (n1 d1 : Nat) (A : Option Addr) (d2 : Nat) (D : Option Addr) (d3 : Nat) (t0 t1 : List (Int × List Int)) (xs : List (Int × Int)) (ps : List P2) : Prop where
  hb : BlkIs u o 95 #[.slice R0 n0 d0, .slice R1 n1 d1, .slice A xs.length d2, .slice D ps.length d3]
  o0 : OwnTS u lo m0 R0 n0 d0 t0
  o1 : OwnTS u m0 m1 R1 n1 d1 t1
  o2 : OwnC u m1 m2 A xs.length d2 xs
  o3 : OwnP2 u m2 hi D ps.length d3 ps
  sz : lo ≤ m0 ∧ m0 ≤ m1 ∧ m1 ≤ m2 ∧ m2 ≤ hi ∧ hi ≤ o
section
variable {u u' : World} {o lo m0 m1 m2 hi n0 d0 n1 d1 d2 d3 : Nat} {R0 R1 A D : Option Addr} {t0 t1 : List (Int × List Int)} {xs : List (Int × Int)} {ps : List P2}
theorem blk_out {w w' : World} {g l h : Nat} {t : TypeId} {cs : Array Value} (hb : BlkIs w g t cs) (ho : Out l h w w') (hg : g < l ∨ h ≤ g) : BlkIs w' g t cs := (ho.block g hb.lt (by omega)).trans hb
theorem Opt.next (h : Opt u o lo m0 m1 m2 hi R0 n0 d0 R1 n1 d1 A d2 D d3 t0 t1 xs ps) (hb : Below u.heap.size u u') : Opt u' o lo m0 m1 m2 hi R0 n0 d0 R1 n1 d1 A d2 D d3 t0 t1 xs ps :=
  ⟨h.hb.next hb, h.o0.next hb, h.o1.next hb, h.o2.next hb, h.o3.next hb, h.sz⟩
/-- The code in its row is changed: other code of the same length. -/
theorem Opt.code {ys : List (Int × Int)} (h : Opt u o lo m0 m1 m2 hi R0 n0 d0 R1 n1 d1 A d2 D d3 t0 t1 xs ps) (hl : ys.length = xs.length) (ho : Out m1 m2 u u') (hc : OwnC u' m1 m2 A ys.length d2 ys) : Opt u' o lo m0 m1 m2 hi R0 n0 d0 R1 n1 d1 A d2 D d3 t0 t1 ys ps :=
  have z := h.sz
  ⟨by rw [hl]; exact blk_out h.hb ho (.inr (by omega)), h.o0.out ho (.inr (by omega)), h.o1.out ho (.inr (Nat.le_refl _)), hc, h.o3.out ho (.inl (Nat.le_refl _)), z⟩
/-- Other code, whose slice has been put into the block. -/
theorem Opt.put {ys : List (Int × Int)} {w1 : World} (h : Opt u o lo m0 m1 m2 hi R0 n0 d0 R1 n1 d1 A d2 D d3 t0 t1 xs ps) (ho : Out m1 m2 u w1) (hc : OwnC w1 m1 m2 A ys.length d2 ys) : Opt (w1.setCell ⟨o, 2, none⟩ (.slice A ys.length d2)) o lo m0 m1 m2 hi R0 n0 d0 R1 n1 d1 A d2 D d3 t0 t1 ys ps := by
  have z := h.sz
  have hB := blk_out h.hb ho (.inr (by omega))
  have hs : Out o (o + 1) w1 (w1.setCell ⟨o, 2, none⟩ (.slice A ys.length d2)) := out_set (Out.refl _ _ _) (by omega)
  have hB2 := hB.set 2 (.slice A ys.length d2)
  simp at hB2
  exact ⟨hB2, (h.o0.out ho (.inr (by omega))).out hs (.inr (by omega)), (h.o1.out ho (.inr (Nat.le_refl _))).out hs (.inr (by omega)), hc.out hs (.inr (by omega)), (h.o3.out ho (.inl (Nat.le_refl _))).out hs (.inr (by omega)), z⟩
theorem Opt.pts {qs : List P2} (h : Opt u o lo m0 m1 m2 hi R0 n0 d0 R1 n1 d1 A d2 D d3 t0 t1 xs ps) (hl : qs.length = ps.length) (ho : Out m2 hi u u') (hc : OwnP2 u' m2 hi D qs.length d3 qs) : Opt u' o lo m0 m1 m2 hi R0 n0 d0 R1 n1 d1 A d2 D d3 t0 t1 xs qs :=
  have z := h.sz
  ⟨by rw [hl]; exact blk_out h.hb ho (.inr (by omega)), h.o0.out ho (.inr (by omega)), h.o1.out ho (.inr (by omega)), h.o2.out ho (.inr (Nat.le_refl _)), hc, z⟩
end

set_option maxRecDepth 100000 in
set_option maxHeartbeats 8000000 in
theorem leaveOut_o (o lo m0 m1 m2 hi : Nat) (R0 : Option Addr) (n0 d0 : Nat) (R1 : Option Addr) (n1 d1 : Nat) (A : Option Addr) (d2 : Nat) (D : Option Addr) (d3 : Nat) (t0 t1 : List (Int × List Int)) (xs : List (Int × Int)) (ps : List P2) (k : Nat) (w : World)
    (h : Opt w o lo m0 m1 m2 hi R0 n0 d0 R1 n1 d1 A d2 D d3 t0 t1 xs ps) (hk : k < xs.length) (hm : xs.length ≤ 1000) (hp : ps.length ≤ 1000) (hbc : BndC xs) (hbp : BndP ps) :
    Calls Tryz.prog 54 #[.pointer (some ⟨o, 0, none⟩), .int .i64 (k : Int)] w fun e w' => e = .returned (.tuple #[]) ∧ Opt w' o lo m0 m1 m2 hi R0 n0 d0 R1 n1 d1 A d2 D d3 t0 t1 (leaveC k xs) (leaveP k ps) ∧ Out lo (o + 1) w w' := by
  obtain ⟨m, hxm⟩ : ∃ m, xs.length = m + 1 := ⟨xs.length - 1, by omega⟩
  have hsz := h.sz
  obtain ⟨g, rfl, hcap, hg⟩ := ownC_cap h.o2.2.1 (by omega)
  have hgh := h.o2.2.2.1 g rfl
  have p2 := h.hb.cell 2
  simp at p2
  rw [hxm] at p2
  have ho2 := h.o2
  rw [hxm] at ho2
  have HD := Lib.hid (deleteC_c m1 m2 g m d2 k xs w ho2 (by omega) (by omega))
  have wa : IntKind.i64.wrap ((k : Int) + 1) = (k : Int) + 1 := IntWalk.i64_in _ (by omega)
  have HL : Hid ((xs.take k ++ xs.drop (k + 1)).length = m) := by show _ = _; rw [List.length_append, List.length_take, List.length_drop]; omega
  have HBC := Lib.hid hbc
  have HBP := Lib.hid hbp
  have H := Lib.hid h
  have hlo : lo ≤ w.heap.size := by have := h.hb.lt; omega
  clear ho2 hbc hbp h
  go_enter Tryz.func54, Tryz.ntmps54
  go_wp2_with fail
  refine HD.out.mono ?_
  rintro e w1 ⟨rfl, hc1, hg1⟩
  have hO1 : Out m1 m2 w w1 := Out.of_grown hg1 (fun j hj => by have := Option.some.inj hj; omega)
  obtain ⟨L, YL⟩ : ∃ x, Hid (xs.take k ++ xs.drop (k + 1) = x) := ⟨_, Lib.hid rfl⟩
  have hLb : Hid (BndC L) := by
    show BndC L
    rw [← YL.out]
    intro x hx
    rcases List.mem_append.1 hx with hx | hx
    · exact HBC.out x (List.mem_of_mem_take hx)
    · exact HBC.out x (List.mem_of_mem_drop hx)
  have hLn : L.length = m := by rw [← YL.out]; exact HL.out
  rw [YL.out] at hc1
  subst hLn
  have hB1 := blk_out H.out.hb hO1 (.inr (by omega))
  have f2 := hB1.frozen 2
  have y2 := hB1.cell 2
  simp at y2
  have hP := H.out.put hO1 hc1
  have HEnd : Hid (leaveC k xs = L.map (subI k)) := by show leaveC k xs = _; rw [← YL.out]; rfl
  have HPE : Hid (leaveP k ps = ps.map (subP k)) := rfl
  have hb2 : Out lo (o + 1) w (w1.setCell ⟨o, 2, none⟩ (.slice (some ⟨g, 0, none⟩) L.length d2)) := out_set (hO1.wide (by omega) (by omega)) (by omega)
  have hT : turned (subI k) L 0 = L := turned_zero _ _
  clear HD HL HBC YL hB1 hc1 hg1 hO1 H
  have HM : Hid (mixF (subP k) 0 ps = ps) := rfl
  have hLl : L.length ≤ 1000 := by omega
  go_upto_region 1 with (fail)
  generalize w1.setCell ⟨o, 2, none⟩ (.slice (some ⟨g, 0, none⟩) L.length d2) = w2 at hP hb2 ⊢
  clear y2 f2
  have z2 := hP.hb.cell 2
  simp at z2
  have hP0 : Hid (Opt w2 o lo m0 m1 m2 hi R0 n0 d0 R1 n1 d1 (some ⟨g, 0, none⟩) d2 D d3 t0 t1 (turned (subI k) L 0) ps) := by show Opt _ _ _ _ _ _ _ _ _ _ _ _ _ _ _ _ _ _ _ _ _; rw [hT]; exact hP
  clear hP hT
  go_wp2_with fail
  go_loopw [4, 5, 27] (fun _ _ i wr => ∃ j : Nat, j ≤ L.length ∧ i = .int .i64 j ∧ Hid (Opt wr o lo m0 m1 m2 hi R0 n0 d0 R1 n1 d1 (some ⟨g, 0, none⟩) d2 D d3 t0 t1 (turned (subI k) L j) ps) ∧ Out lo (o + 1) w wr) (fun _ _ i _ => L.length - (intOf i).toNat)
  case atStart => exact ⟨0, Nat.zero_le _, rfl, hP0, hb2⟩
  case round =>
    clear hP0 hb2 z2
    obtain ⟨j, hj, rfl, hP, hb⟩ := hrel
    have hos := hP.out.hb.lt
    by_cases hlt : j < L.length
    · obtain ⟨x, hx⟩ : ∃ x, L[j]? = some x := ⟨_, List.getElem?_eq_getElem hlt⟩
      have hxb := hLb.out x (List.mem_of_getElem? hx)
      have hll : (turned (subI k) L j).length = L.length := turned_len _ _ _
      obtain ⟨c0, c1⟩ := flatC_at (turned_at (subI k) hx)
      have z2 := hP.out.hb.cell 2
      simp [hll] at z2
      have q0 := hP.out.o2.2.1.cellAt (j * 2) (by omega)
      have q1 := hP.out.o2.2.1.cellAt (j * 2 + 1) (by omega)
      rw [c0] at q0
      rw [c1] at q1
      have HJ0 := hasPlace_o x.1 x.2 wr
      by_cases hjmp : x.1 = 5 ∨ x.1 = 6
      · rw [decide_eq_true hjmp] at HJ0
        have HJ := Lib.hid HJ0
        by_cases hgt : (k : Int) < x.2
        · have HT := Lib.hid (turned_succ (subI k) hx)
          have HY := Lib.hid (subI_yes (k := (k : Int)) ⟨hjmp, hgt⟩)
          have HX := Lib.hid (turned_at (subI k) hx)
          clear HJ0 hx hjmp c0 c1 hll
          go_wp2_with fail
          refine HJ.out.mono ?_
          rintro e w7 ⟨rfl, hb7⟩
          have hP7 := hP.out.next hb7
          have u2 := cell_next z2 hb7
          have u0 := cell_next q0 hb7
          have u1 := cell_next q1 hb7
          have v1 := hP7.o2.2.1.frozenAt (j * 2 + 1)
          have hst := (hP7.o2.2.1.stored (j * 2 + 1) (.int .i64 (x.2 - 1))).1
          rw [flatC_set2 (x.2 - 1) HX.out, ← HY.out, HT.out] at hst
          have hO8 : Out m1 m2 w7 (w7.setCell ⟨g, j * 2 + 1, none⟩ (.int .i64 (x.2 - 1))) := out_set (Out.refl _ _ _) (by omega)
          have hl8 : (turned (subI k) L (j + 1)).length = (turned (subI k) L j).length := by rw [turned_len, turned_len]
          have hP8 := Lib.hid (hP7.code hl8 hO8 ⟨rfl, (by rw [hl8]; exact hst), hP7.o2.2.2.1, Nat.le_trans hP7.o2.2.2.2 hO8.size⟩)
          have hb8 := out_set (i := j * 2 + 1) (u := .int .i64 (x.2 - 1)) (hb.trans (Out.of_below hb7)) (show lo ≤ g ∧ g < o + 1 by omega)
          clear HT HY HX hP7 hst hl8
          go_wp2_with fail
          go_roundw
          case rel => exact ⟨j + 1, by omega, by go_num, hP8, hb8⟩
          case measure => simp [intOf]; omega
        · have HT := Lib.hid (turned_same (subI k) hx (subI_no (k := (k : Int)) (fun h => hgt h.2)))
          clear HJ0 hx hjmp c0 c1 hll
          go_wp2_with fail
          refine HJ.out.mono ?_
          rintro e w7 ⟨rfl, hb7⟩
          have hP7 := Lib.hid (hP.out.next hb7)
          rw [HT.out] at hP7
          have u2 := cell_next z2 hb7
          have u1 := cell_next q1 hb7
          have hb8 := hb.trans (Out.of_below hb7)
          clear HT
          go_wp2_with fail
          go_roundw
          case rel => exact ⟨j + 1, by omega, by go_num, hP7, hb8⟩
          case measure => simp [intOf]; omega
      · rw [decide_eq_false hjmp] at HJ0
        have HJ := Lib.hid HJ0
        have HT := Lib.hid (turned_same (subI k) hx (subI_no (k := (k : Int)) (fun h => hjmp h.1)))
        clear HJ0 hx hjmp c0 c1 hll
        go_wp2_with fail
        refine HJ.out.mono ?_
        rintro e w7 ⟨rfl, hb7⟩
        have hP7 := Lib.hid (hP.out.next hb7)
        rw [HT.out] at hP7
        have hb8 := hb.trans (Out.of_below hb7)
        clear HT
        go_wp2_with fail
        go_roundw
        case rel => exact ⟨j + 1, by omega, by go_num, hP7, hb8⟩
        case measure => simp [intOf]; omega
    · have e : j = L.length := by omega
      subst e
      rw [turned_all _ (Nat.le_refl _), ← HEnd.out] at hP
      have hM0 : Hid (Opt wr o lo m0 m1 m2 hi R0 n0 d0 R1 n1 d1 (some ⟨g, 0, none⟩) d2 D d3 t0 t1 (leaveC k xs) (mixF (subP k) 0 ps)) := hP
      have z3 := hP.out.hb.cell 3
      simp at z3
      clear hP hlt
      go_wp2_with fail
      go_loopw [6, 7, 63] (fun _ _ i wr => ∃ j : Nat, j ≤ ps.length ∧ i = .int .i64 j ∧ Hid (Opt wr o lo m0 m1 m2 hi R0 n0 d0 R1 n1 d1 (some ⟨g, 0, none⟩) d2 D d3 t0 t1 (leaveC k xs) (mixF (subP k) j ps)) ∧ Out lo (o + 1) w wr) (fun _ _ i _ => ps.length - (intOf i).toNat)
      case atStart => exact ⟨0, Nat.zero_le _, rfl, hM0, hb⟩
      case round =>
        clear hM0 hb z3
        obtain ⟨j, hj, rfl, hP, hb⟩ := hrel
        by_cases hlt : j < ps.length
        · obtain ⟨p, hpp⟩ : ∃ p, ps[j]? = some p := ⟨_, List.getElem?_eq_getElem hlt⟩
          have hpb := HBP.out p (List.mem_of_getElem? hpp)
          have hml := mixF_len (subP k) j ps
          have z3 := hP.out.hb.cell 3
          simp [hml] at z3
          obtain ⟨g4, hg4e, hg4⟩ : ∃ g4, D = some ⟨g4, 0, none⟩ ∧ (m2 ≤ g4 ∧ g4 < hi) := by
            obtain ⟨h1, h2, xs', f, h3, h4, _⟩ := hP.out.o3
            rcases h3.2 with ⟨h', hn'⟩ | ⟨b', cap, cur, e1, e2, _⟩
            · omega
            · injection e1 with e1
              refine ⟨b', e1, e2, ?_⟩
              subst e1
              exact (h4 b' rfl).1
          subst hg4e
          obtain ⟨q0, v0⟩ : wr.cell? ⟨g4, j * 2, none⟩ = some (.int .i64 p.a) ∧ wr.frozen? ⟨g4, j * 2, none⟩ = false := by
            obtain ⟨h1, h2, xs', f, h3, h4, h5, h6, h7, h8⟩ := hP.out.o3
            obtain ⟨_, _, _, ⟨q0, _⟩, _⟩ := h8 j p (mixF_at hpp)
            exact ⟨by rw [h3.cellAt (j * 2) (by omega)]; exact q0, h3.frozenAt _⟩
          by_cases hgt : (k : Int) < p.a
          · have HY := Lib.hid (subP_yes (k := (k : Int)) hgt)
            have HT := Lib.hid (mixF_set (f := subP k) hpp)
            have hO8 : Out m2 hi wr (wr.setCell ⟨g4, j * 2, none⟩ (.int .i64 (p.a - 1))) := out_set (Out.refl _ _ _) (by omega)
            have hl8 : (mixF (subP k) (j + 1) ps).length = (mixF (subP k) j ps).length := by rw [mixF_len, mixF_len]
            have hs8 := hP.out.o3.set_a (z := p.a - 1) (mixF_at hpp)
            rw [← HY.out, HT.out] at hs8
            have hP8 := Lib.hid (hP.out.pts hl8 hO8 (by rw [hl8]; exact hs8))
            have hb8 := out_set (i := j * 2) (u := .int .i64 (p.a - 1)) hb (show lo ≤ g4 ∧ g4 < o + 1 by omega)
            clear HY HT hs8 hl8 hpp hml
            go_wp2_with fail
            go_roundw
            case rel => exact ⟨j + 1, by omega, by go_num, hP8, hb8⟩
            case measure => simp [intOf]; omega
          · have HT := Lib.hid (mixF_same (f := subP k) hpp (subP_no (k := (k : Int)) hgt))
            rw [← HT.out] at hP
            clear HT hpp hml
            go_wp2_with fail
            go_roundw
            case rel => exact ⟨j + 1, by omega, by go_num, hP, hb⟩
            case measure => simp [intOf]; omega
        · have e : j = ps.length := by omega
          subst e
          rw [mixF_all (Nat.le_refl _), ← HPE.out] at hP
          go_wp2_with fail
          go_end0
          exact ⟨rfl, hP.out, hb⟩
theorem leaveOut_c (o lo m0 m1 m2 hi : Nat) (R0 : Option Addr) (n0 d0 : Nat) (R1 : Option Addr) (n1 d1 : Nat) (A : Option Addr) (d2 : Nat) (D : Option Addr) (d3 : Nat) (t0 t1 : List (Int × List Int)) (xs : List (Int × Int)) (ps : List P2) (k : Nat) (w : World)
    (h : Opt w o lo m0 m1 m2 hi R0 n0 d0 R1 n1 d1 A d2 D d3 t0 t1 xs ps) (hk : k < xs.length) (hm : xs.length ≤ 1000) (hp : ps.length ≤ 1000) (hbc : BndC xs) (hbp : BndP ps) :
    Calls Tryz.prog 54 #[.pointer (some ⟨o, 0, none⟩), .int .i64 (k : Int)] w fun e w' => e = .returned (.tuple #[]) ∧ Opt w' o lo m0 m1 m2 hi R0 n0 d0 R1 n1 d1 A d2 D d3 t0 t1 (leaveC k xs) (leaveP k ps) ∧ Below lo w w' :=
  (leaveOut_o o lo m0 m1 m2 hi R0 n0 d0 R1 n1 d1 A d2 D d3 t0 t1 xs ps k w h hk hm hp hbc hbp).mono fun e w' ⟨he, hO, ho⟩ => ⟨he, hO, ho.below (Nat.le_refl _) (by have := h.hb.lt; have := h.sz; omega)⟩
end Go.Proofs.YtdmcpabpjhinhaaGreatDoor

/-! slices.Grow of nil and slices.Concat of two lists, at points. Conditions: at most 2^20 points. -/
namespace Go.Proofs.YtdmcpabpjhinhaaGreatDoor
open Go.RowKit
set_option linter.unusedVariables false

theorem ptsF_mono {len l l' : Int} {ps : List P2} (h : ptsF len l' ps = true) (hl : l ≤ l') : ptsF len l ps = true := by
  cases ps with
  | nil => rfl
  | cons p ps =>
    unfold ptsF at h ⊢
    simp only [Bool.and_eq_true, decide_eq_true_eq] at h ⊢
    exact ⟨⟨⟨by omega, h.1.1.2⟩, h.1.2⟩, h.2⟩
theorem ptsF_del {len : Int} : ∀ {ps : List P2} {k : Nat} {l : Int}, ptsF len l ps = true → ptsF len l (ps.take k ++ ps.drop (k + 1)) = true := by
  intro ps
  induction ps with
  | nil => intro k l _; simp [ptsF]
  | cons p ps ih =>
    intro k l h
    have h' := h
    unfold ptsF at h'
    simp only [Bool.and_eq_true, decide_eq_true_eq] at h'
    cases k with
    | zero =>
      show ptsF len l ps = true
      exact ptsF_mono h'.2 (by omega)
    | succ k =>
      show ptsF len l (p :: (ps.take k ++ ps.drop (k + 1))) = true
      unfold ptsF
      simp only [Bool.and_eq_true, decide_eq_true_eq]
      exact ⟨h'.1, ih h'.2⟩
theorem ptsB_del {len : Int} {ps : List P2} {k : Nat} (h : ptsB len ps = true) : ptsB len (ps.take k ++ ps.drop (k + 1)) = true := by
  unfold ptsB at h ⊢
  simp only [Bool.and_eq_true, decide_eq_true_eq] at h ⊢
  exact ⟨by rw [List.length_append, List.length_take, List.length_drop]; omega, ptsF_del h.2⟩
theorem totP2_del (ps : List P2) (k : Nat) : totP2 (ps.take k ++ ps.drop (k + 1)) ≤ totP2 ps := by
  have h1 : totP2 ps = totP2 (ps.take (k + 1)) + totP2 (ps.drop (k + 1)) := by
    unfold totP2
    rw [← List.sum_append, ← List.map_append, List.take_append_drop]
  have h2 : totP2 (ps.take k ++ ps.drop (k + 1)) = totP2 (ps.take k) + totP2 (ps.drop (k + 1)) := by
    unfold totP2
    rw [List.map_append, List.sum_append]
  have h3 : totP2 (ps.take k) ≤ totP2 (ps.take (k + 1)) := by
    have e : ps.take k = (ps.take (k + 1)).take k := by rw [List.take_take, Nat.min_eq_left (Nat.le_succ k)]
    rw [e]
    exact totP2_take _ _
  omega

/-- Points of the caller's in a row of the call's own. -/
def PIn (w : World) (base B : Nat) (v : Value) (n : Nat) (xs : List P2) : Prop :=
  xs.length = n ∧ ∃ cs, w.ownsRow base 83 2 v n cs ∧ ∀ j x, xs[j]? = some x → cs[j * 2]? = some (.int .i64 x.a) ∧ ∃ A' n' c', cs[j * 2 + 1]? = some (.slice A' n' c') ∧ InTS w B A' n' x.s
theorem PIn.out {w : World} {base B n : Nat} {v : Value} {xs : List P2} (h : PIn w base B v n xs) (hB : B ≤ w.heap.size) : ∃ A c, v = .slice A n c ∧ InP2 w w.heap.size A n xs := by
  obtain ⟨h1, cs, h3, h4⟩ := h
  have h3' := h3
  rcases h3.2 with ⟨rfl, hn⟩ | ⟨b, cap, cur, rfl, k2, k3, k4⟩
  · have : xs = [] := List.eq_nil_of_length_eq_zero (by omega)
    subst this
    subst hn
    exact ⟨none, 0, rfl, rfl, fun j t hj => by simp at hj⟩
  · refine ⟨some ⟨b, 0, none⟩, cap, rfl, h1, fun j x hj => ?_⟩
    have hjl : j < xs.length := (List.getElem?_eq_some_iff.1 hj).1
    have hxl := h3.1
    obtain ⟨a, A', n', c', bb, c⟩ := h4 j x hj
    refine ⟨b, 0, rfl, blk_lt k3, A', n', c', ?_, ?_, c.more hB⟩
    · rw [Nat.zero_add, h3.cellAt (j * 2) (by omega), a]
    · rw [Nat.zero_add, h3.cellAt (j * 2 + 1) (by omega), bb]
theorem p2_cells {w : World} {B b off n : Nat} {xs : List P2} (h : InP2 w B (some ⟨b, off, none⟩) n xs) :
    ∃ news : List Value, news.length = n * 2 ∧ (∀ j u, news[j]? = some u → w.cell? ((⟨b, off, none⟩ : Addr).add j) = some u) ∧ (∀ u ∈ news, u.oneCell' = true) ∧
      ∀ j x, xs[j]? = some x → news[j * 2]? = some (.int .i64 x.a) ∧ ∃ A' n' c', news[j * 2 + 1]? = some (.slice A' n' c') ∧ InTS w B A' n' x.s := by
  have hat0 : ∀ j, j < n → ∃ x A' n' c', xs[j]? = some x ∧ w.cell? ⟨b, off + j * 2, none⟩ = some (.int .i64 x.a) ∧ w.cell? ⟨b, off + j * 2 + 1, none⟩ = some (.slice A' n' c') ∧ InTS w B A' n' x.s := by
    intro j hj
    obtain ⟨b', off', x, e, _, hx, A', n', c', h1, h2, h3⟩ := h.at_ hj
    cases e
    exact ⟨x, A', n', c', hx, h1, h2, h3⟩
  have key : ∀ j, j < n * 2 → ∃ u, w.cell? ⟨b, off + j, none⟩ = some u ∧ u.oneCell' = true := by
    intro j hj
    obtain ⟨x, A', n', c', _, h1, h2, h3⟩ := hat0 (j / 2) (by omega)
    by_cases hp : j % 2 = 0
    · exact ⟨_, by rw [show off + j = off + j / 2 * 2 by omega]; exact h1, rfl⟩
    · exact ⟨_, by rw [show off + j = off + j / 2 * 2 + 1 by omega]; exact h2, rfl⟩
  have hat : ∀ j, j < n * 2 → ((List.range (n * 2)).map fun j => (w.cell? ⟨b, off + j, none⟩).getD undef)[j]? = w.cell? ⟨b, off + j, none⟩ := by
    intro j hj
    obtain ⟨u, hu, _⟩ := key j hj
    rw [List.getElem?_map, List.getElem?_range hj, hu]
    simp [hu]
  refine ⟨(List.range (n * 2)).map fun j => (w.cell? ⟨b, off + j, none⟩).getD undef, by simp, fun j u hu => ?_, fun u hu => ?_, fun j x hx => ?_⟩
  · have hj : j < n * 2 := by have := (List.getElem?_eq_some_iff.1 hu).1; simpa using this
    rw [hat j hj] at hu
    rw [show ((⟨b, off, none⟩ : Addr).add j) = ⟨b, off + j, none⟩ by by_cases e : j = 0 <;> simp [Addr.add, e]]
    exact hu
  · obtain ⟨j, hj, rfl⟩ := List.mem_map.1 hu
    obtain ⟨u, hu, h1⟩ := key j (List.mem_range.1 hj)
    simp only [hu]
    exact h1
  · have hj : j < n := by have := (List.getElem?_eq_some_iff.1 hx).1; have := h.1; omega
    obtain ⟨x', A', n', c', hx', h1, h2, h3⟩ := hat0 j hj
    rw [hx] at hx'
    obtain rfl := Option.some.inj hx'
    exact ⟨by rw [hat _ (by omega)]; exact h1, A', n', c', by rw [hat _ (by omega)]; exact h2, h3⟩
theorem app_pin {w : World} {base B k n c : Nat} {v : Value} {A : Option Addr} {ys xs : List P2} (hr : PIn w base B v k ys) (h : InP2 w B A n xs) (hB : B ≤ base) (hbw : base ≤ w.heap.size) (hk : k ≤ 1048576) (hn : n ≤ 1048576) :
    ∃ v' w', (Builtin.append_ #[30, 30] 30 #[v, .slice A n c]).run Tryz.prog w = .ok v' w' ∧ PIn w' base B v' (k + n) (ys ++ xs) ∧ Below base w w' := by
  obtain ⟨i0, hi, hz0, hz1, hz2⟩ := info_parts infoPoint
  obtain ⟨hl, cs, ho, hc⟩ := hr
  rcases A with _ | ad
  · have hn0 : n = 0 := by
      rcases Nat.eq_zero_or_pos n with h0 | h0
      · exact h0
      · obtain ⟨_, _, _, e, _⟩ := h.at_ (k := 0) h0
        cases e
    subst hn0
    have hxs : xs = [] := List.eq_nil_of_length_eq_zero h.1
    subst hxs
    exact ⟨v, w, nil_any w base _ _ 83 i0 2 Tryz.underlying30 hi v k _ ho c, (by rw [Nat.add_zero, List.append_nil]; exact ⟨hl, cs, ho, hc⟩), Below.refl _ _⟩
  · obtain ⟨news, l1, l2, l3, l4⟩ : ∃ news : List Value, news.length = n * 2 ∧ (∀ j u, news[j]? = some u → w.cell? (ad.add j) = some u) ∧ (∀ u ∈ news, u.oneCell' = true) ∧
        ∀ j x, xs[j]? = some x → news[j * 2]? = some (.int .i64 x.a) ∧ ∃ A' n' c', news[j * 2 + 1]? = some (.slice A' n' c') ∧ InTS w B A' n' x.s := by
      by_cases hn0 : n = 0
      · have hxs : xs = [] := List.eq_nil_of_length_eq_zero (h.1.trans hn0)
        subst hxs
        exact ⟨[], by simp [hn0], fun j u hu => by simp at hu, fun u hu => by simp at hu, fun j t ht => by simp at ht⟩
      · obtain ⟨b, off, _, e, _⟩ := h.at_ (k := 0) (by omega)
        cases e
        exact p2_cells h
    obtain ⟨v', w', e1, e2, e3, _⟩ := run_append_own w base 30 30 83 i0 (.agg #[.int .i64 0, .slice none 0 0]) 2 32 Tryz.underlying30 hi hz0 hz1 hz2 rfl (by decide) v k cs ho ad n c news l1 l2 l3 (by unfold maxLen; omega) (by omega) hbw
    have hcl := ho.1
    have hbb : Below base w w' := (Below.refl base w).grown e3 hbw (fun j hj => (ho.lt j hj).1)
    refine ⟨v', w', e1, ⟨by rw [List.length_append, hl, h.1], _, e2, fun j x hj => ?_⟩, hbb⟩
    by_cases hjn : j < ys.length
    · rw [List.getElem?_append_left hjn] at hj
      obtain ⟨a, A', n', c', b, d⟩ := hc j x hj
      exact ⟨by rw [List.getElem?_append_left (by omega)]; exact a, A', n', c', by rw [List.getElem?_append_left (by omega)]; exact b, d.next hbb hB⟩
    · rw [List.getElem?_append_right (by omega)] at hj
      obtain ⟨a, A', n', c', b, d⟩ := l4 _ x hj
      exact ⟨by rw [List.getElem?_append_right (by omega), show j * 2 - cs.length = (j - ys.length) * 2 by omega]; exact a, A', n', c', by rw [List.getElem?_append_right (by omega), show j * 2 + 1 - cs.length = (j - ys.length) * 2 + 1 by omega]; exact b, d.next hbb hB⟩

theorem size_zeroP (n : Nat) : (Builtin.zeroCells (Value.agg #[.int .i64 0, .slice none 0 0]).cells n).size = n * 2 := by
  rw [size_zeroCells]; rfl
end Go.Proofs.YtdmcpabpjhinhaaGreatDoor

/-! The program's withPoints for code that is not valid, and its DropPoint. Conditions: at most 2^20 elements and numbers. -/
namespace Go.Proofs.YtdmcpabpjhinhaaGreatDoor
set_option linter.unusedVariables false
set_option linter.unusedSectionVars false
open Go.RowKit

theorem totT_le {ts : List (Int × List Int)} {m : Nat} (h : ∀ t ∈ ts, t.2.length ≤ m) : totT ts ≤ m * ts.length := by
  induction ts with
  | nil => simp [totT]
  | cons t ts ih =>
    have h1 := ih fun u hu => h u (List.mem_cons_of_mem _ hu)
    have h2 := h t (List.mem_cons_self ..)
    unfold totT at h1 ⊢
    simp only [List.map_cons, List.sum_cons, List.length_cons, Nat.mul_add] at h1 ⊢
    omega
theorem oversB_tot {ts : List (Int × List Int)} (h : oversB 6 ts = true) : ts.length ≤ 6 ∧ totT ts ≤ 24 := by
  unfold oversB at h
  simp only [Bool.and_eq_true, decide_eq_true_eq, List.all_eq_true] at h
  have := totT_le (ts := ts) (m := 4) fun t ht => by
    have := h.1 t ht
    unfold overB at this
    simp only [Bool.and_eq_true, decide_eq_true_eq] at this
    omega
  exact ⟨h.2, by omega⟩
theorem ptsF_tot {len : Int} : ∀ {ps : List P2} {l : Int}, ptsF len l ps = true → totP2 ps ≤ 30 * ps.length := by
  intro ps
  induction ps with
  | nil => intro l _; simp [totP2]
  | cons p ps ih =>
    intro l h
    unfold ptsF at h
    simp only [Bool.and_eq_true] at h
    have h1 := ih h.2
    have h2 := oversB_tot h.1.2
    unfold totP2 at h1 ⊢
    simp only [List.map_cons, List.sum_cons, List.length_cons] at h1 ⊢
    unfold P2.tot at h1 ⊢
    omega
theorem annB_tot {t0 t1 : List (Int × List Int)} {xs : List (Int × Int)} {ps : List P2} (h : annB t0 t1 xs ps = true) : totT t0 ≤ 24 ∧ totT t1 ≤ 24 ∧ totP2 ps ≤ 240 := by
  obtain ⟨hc, h0, h1, hp⟩ := annB_parts h
  unfold ptsB at hp
  simp only [Bool.and_eq_true, decide_eq_true_eq] at hp
  have := ptsF_tot hp.2
  exact ⟨(oversB_tot h0).2, (oversB_tot h1).2, by omega⟩
theorem ownTS_none (w : World) (lo hi : Nat) (h : hi ≤ w.heap.size) : OwnTS w lo hi none 0 0 [] :=
  ⟨rfl, h, [], fun _ => .bool false, World.ownsRow_nil _ _ _ _, (fun k hk => by cases hk), (fun j t ht => by simp at ht), (fun i j hi => by omega), (fun i hi => by omega)⟩
theorem ownC_none (w : World) (lo hi : Nat) (h : hi ≤ w.heap.size) : OwnC w lo hi none 0 0 [] := ⟨rfl, World.ownsRow_nil _ _ _ _, (fun j hj => by cases hj), h⟩
theorem anI_none {w w' : World} (hb : Below w.heap.size w w') (hP : OwnP2 w' w'.heap.size w'.heap.size none 0 0 []) : AnI w w' (.returned (.tuple #[.agg #[.slice none 0 0, .slice none 0 0, .slice none 0 0, .slice none 0 0], .bool false])) 0 0 0 0 [] [] [] [] false :=
  ⟨none, 0, none, 0, none, 0, none, 0, w'.heap.size, w'.heap.size, w'.heap.size, rfl, ownTS_none _ _ _ (Nat.le_refl _), ownTS_none _ _ _ (Nat.le_refl _), ownC_none _ _ _ (Nat.le_refl _), hP, ⟨hb.size, Nat.le_refl _, Nat.le_refl _, Nat.le_refl _⟩, hb⟩
theorem ownP2_none (w : World) : OwnP2 w w.heap.size w.heap.size none 0 0 [] := ⟨rfl, Nat.le_refl _, [], fun _ => w.heap.size, World.ownsRow_nil _ _ _ _, (fun k hk => by cases hk), Nat.le_refl _, (fun i hi => by omega), Nat.le_refl _, fun j t hj => by simp at hj⟩

section
variable (A0 : Option Addr) (n0 c0 : Nat) (t0 : List (Int × List Int)) (A1 : Option Addr) (n1 c1 : Nat) (t1 : List (Int × List Int)) (A2 : Option Addr) (n2 c2 : Nat) (t2 : List (Int × Int)) (A3 : Option Addr) (n3 c3 : Nat) (t3 : List P2) (w : World) (h0 : InTS w w.heap.size A0 n0 t0) (h1 : InTS w w.heap.size A1 n1 t1) (h2 : InC w w.heap.size A2 n2 t2) (h3 : InP2 w w.heap.size A3 n3 t3) (hn0 : n0 ≤ 1048576) (he0 : totT t0 ≤ 1048576) (hn1 : n1 ≤ 1048576) (he1 : totT t1 ≤ 1048576) (hn2 : n2 ≤ 1048576) (hn3 : n3 ≤ 1048576) (he3 : totP2 t3 ≤ 1048576)
include h0 h1 h2 h3 hn0 he0 hn1 he1 hn2 hn3 he3
set_option maxRecDepth 100000 in
set_option maxHeartbeats 4000000 in
theorem with_no (A4 : Option Addr) (n4 c4 : Nat) (hv : annB t0 t1 t2 t3 = false) :
    Calls Tryz.prog 51 #[.agg #[.slice A0 n0 c0, .slice A1 n1 c1, .slice A2 n2 c2, .slice A3 n3 c3], .slice A4 n4 c4] w fun e w' => AnI w w' e 0 0 0 0 [] [] [] [] false := by
  have hb0 : Below w.heap.size w ((w.alloc (.cells #[.slice A0 n0 c0, .slice A1 n1 c1, .slice A2 n2 c2, .slice A3 n3 c3] 32)).alloc (.cells #[.slice none 0 0, .slice none 0 0, .slice none 0 0, .slice none 0 0] 32)) := bon (bnew _ _) (bnew _ _)
  have hX : BlkIs ((w.alloc (.cells #[.slice A0 n0 c0, .slice A1 n1 c1, .slice A2 n2 c2, .slice A3 n3 c3] 32)).alloc (.cells #[.slice none 0 0, .slice none 0 0, .slice none 0 0, .slice none 0 0] 32)) (w.heap.size + 1) 32 #[.slice none 0 0, .slice none 0 0, .slice none 0 0, .slice none 0 0] := blk_new _ _ _ _ (by simp)
  have HV : Hid (∀ x, Below w.heap.size w x → Calls Tryz.prog 78 #[.agg #[.slice A0 n0 c0, .slice A1 n1 c1, .slice A2 n2 c2, .slice A3 n3 c3]] x fun e w' => e = .returned (.bool false) ∧ Below x.heap.size x w') := fun x hx => by
    have h := implAnn_c A0 n0 c0 t0 A1 n1 c1 t1 A2 n2 c2 t2 A3 n3 c3 t3 x ((h0.next hx (Nat.le_refl _)).more hx.size) ((h1.next hx (Nat.le_refl _)).more hx.size) ((h2.next hx (Nat.le_refl _)).more hx.size) ((h3.next hx (Nat.le_refl _)).more hx.size) hn0 he0 hn1 he1 hn2 hn3 he3
    rw [hv] at h
    exact h
  clear h0 h1 h2 h3 hv
  go_enter Tryz.func51, Tryz.ntmps51
  go_wp2_with fail
  generalize ((w.alloc (.cells #[.slice A0 n0 c0, .slice A1 n1 c1, .slice A2 n2 c2, .slice A3 n3 c3] 32)).alloc (.cells #[.slice none 0 0, .slice none 0 0, .slice none 0 0, .slice none 0 0] 32)) = W at hb0 hX ⊢
  refine (HV.out W hb0).mono ?_
  rintro e w1 ⟨rfl, hb1⟩
  have hX1 := hX.next hb1
  have f0 := hX1.frozen 0
  have f1 := hX1.frozen 1
  have f2 := hX1.frozen 2
  have f3 := hX1.frozen 3
  have y0 := hX1.cell 0
  have y1 := hX1.cell 1
  have y2 := hX1.cell 2
  have y3 := hX1.cell 3
  simp at y0 y1 y2 y3
  obtain ⟨hF, hgr⟩ := fill4 hX1 (.slice none 0 0) (.slice none 0 0) (.slice none 0 0) (.slice none 0 0)
  have r0 := hF.cell 0
  have r1 := hF.cell 1
  have r2 := hF.cell 2
  have r3 := hF.cell 3
  simp at r0 r1 r2 r3
  have hbF := (bon hb0 hb1).trans (only_below hgr (Nat.le_succ _) (bon hb0 hb1).size)
  clear hgr hF hX1
  go_wp2_with fail
  refine bodyPost_ret (v := .tuple #[.agg #[.slice none 0 0, .slice none 0 0, .slice none 0 0, .slice none 0 0], .bool false]) (by simp [results, Tryz.results51, go_sem, r0, r1, r2, r3]) rfl ?_
  exact anI_none hbF (ownP2_none _)

end
end Go.Proofs.YtdmcpabpjhinhaaGreatDoor

/-! The model's DropUnreachable. Conditions: at most 2^20 elements and numbers. -/
namespace Go.Proofs.YtdmcpabpjhinhaaGreatDoor
set_option linter.unusedVariables false
set_option linter.unusedSectionVars false
open Go.RowKit

def SmU (ps : List P2) : Prop := ps.length ≤ 1000 ∧ ∀ p ∈ ps, p.s.length ≤ 1000 ∧ ∀ t ∈ p.s, t.2.length ≤ 100000
theorem SmU.leave {k : Nat} {ps : List P2} (h : SmU ps) : SmU (leaveP k ps) := by
  refine ⟨by rw [leaveP_len]; exact h.1, fun p hp => ?_⟩
  obtain ⟨q, hq, rfl⟩ := List.mem_map.1 hp
  rw [subP_s]
  exact h.2 q hq
/-- What stays the same while what marks do not tell is left out from place i - 1 down. -/
structure DrS (ms : List Bool) (i : Nat) (R : List (Int × Int) × List P2) (xs : List (Int × Int)) (ps : List P2) : Prop where
  res : R = droN ms i (xs, ps)
  len : i ≤ xs.length
  mlen : i ≤ ms.length
  max : xs.length ≤ 1000
  bc : BndC xs
  bp : BndP ps
  sm : SmU ps
  pts : ∀ k, k < i → ms[k]? = some false → ptB ps k = false
theorem DrS.no {ms : List Bool} {k : Nat} {R : List (Int × Int) × List P2} {xs : List (Int × Int)} {ps : List P2} (h : DrS ms (k + 1) R xs ps) (hi : ms[k]? = some true) : DrS ms k R xs ps :=
  ⟨by rw [h.res]; show droN ms k (dro1 ms k (xs, ps)) = _; rw [dro1_yes hi], by have := h.len; omega, by have := h.mlen; omega, h.max, h.bc, h.bp, h.sm, fun j hj => h.pts j (by omega)⟩
theorem DrS.yes {ms : List Bool} {k : Nat} {R : List (Int × Int) × List P2} {xs : List (Int × Int)} {ps : List P2} (h : DrS ms (k + 1) R xs ps) (hi : ms[k]? = some false) : DrS ms k R (leaveC k xs) (leaveP k ps) := by
  have hl := leaveC_len (k := k) (xs := xs) (by have := h.len; omega)
  have := h.len
  have := h.max
  exact ⟨by rw [h.res]; show droN ms k (dro1 ms k (xs, ps)) = _; rw [dro1_no hi], by omega, by have := h.mlen; omega, by omega, h.bc.leave, h.bp.leave, h.sm.leave, fun j hj e => by rw [ptB_leave hj]; exact h.pts j (by omega) e⟩

theorem droN_pts {t2 : List (Int × Int)} {t3 : List P2} {ms : List Bool} (h : MarksOf t2 (fromP (atsP t3)) ms) : ∀ k, k < t2.length → ms[k]? = some false → ptB t3 k = false := by
  intro k hk e
  have h1 := h.2 k false e
  cases hp : ptB t3 k with
  | false => rfl
  | true => exact absurd (h1.2 (.base (.inr (ptB_ats.1 hp)))) (by decide)

set_option maxRecDepth 100000 in
set_option maxHeartbeats 8000000 in
theorem l09Drop_c (b base : Nat) (A0 : Option Addr) (c0 : Nat) (t0 : List (Int × List Int)) (A1 : Option Addr) (c1 : Nat) (t1 : List (Int × List Int)) (A2 : Option Addr) (c2 : Nat) (t2 : List (Int × Int)) (A3 : Option Addr) (c3 : Nat) (t3 : List P2) (B : Nat) (w : World) (R : List (Int × Int) × List P2) (ms : List Bool)
    (hP : BlkIs w b 32 #[.slice A0 t0.length c0, .slice A1 t1.length c1, .slice A2 t2.length c2, .slice A3 t3.length c3]) (h0 : InTS w B A0 t0.length t0) (h1 : InTS w B A1 t1.length t1) (h2 : InC w B A2 t2.length t2) (h3 : InP2 w B A3 t3.length t3) (hB : B ≤ w.heap.size)
    (s0 : t0.length ≤ 1000 ∧ ∀ t ∈ t0, t.2.length ≤ 100000) (s1 : t1.length ≤ 1000 ∧ ∀ t ∈ t1, t.2.length ≤ 100000) (hI : DrS ms t2.length R t2 t3) (hann : annB t0 t1 t2 t3 = true) (hms : MarksOf t2 (fromP (atsP t3)) ms) :
    Calls Tryz.prog 21 #[.pointer (some ⟨b, 0, none⟩)] w fun e w' => ∃ C0 e0 C1 e1 C2 e2 C3 e3, e = .returned (.agg #[.slice C0 t0.length e0, .slice C1 t1.length e1, .slice C2 R.1.length e2, .slice C3 R.2.length e3]) ∧ AnM w' w.heap.size C0 C1 C2 e2 C3 e3 t0 t1 R.1 R.2 ∧ Below w.heap.size w w' := by
  have hb0 := bnew w (.cells #[.slice none 0 0, .slice none 0 0, .slice none 0 0, .slice none 0 0] 32)
  have hX : BlkIs (w.alloc (.cells #[.slice none 0 0, .slice none 0 0, .slice none 0 0, .slice none 0 0] 32)) w.heap.size 32 #[.slice none 0 0, .slice none 0 0, .slice none 0 0, .slice none 0 0] := blk_new _ _ _ _ rfl
  have hsz : (w.alloc (.cells #[.slice none 0 0, .slice none 0 0, .slice none 0 0, .slice none 0 0] 32)).heap.size = w.heap.size + 1 := by simp
  have HRe := Lib.hid (l09Reached_c b A0 t0.length c0 t0 A1 t1.length c1 t1 A2 t2.length c2 B t2 A3 t3.length c3 t3 (w.alloc (.cells #[.slice none 0 0, .slice none 0 0, .slice none 0 0, .slice none 0 0] 32)) (hP.next hb0) (h2.next hb0 hB) (h3.next hb0 hB) (Nat.le_trans hB hb0.size) hann)
  have HI := Lib.hid hI
  have HS0 := Lib.hid s0
  have HS1 := Lib.hid s1
  have HP := Lib.hid hP
  have hmx := hI.max
  have HMS := Lib.hid hms
  have hml : ms.length = t2.length := hms.1
  have H4 := Lib.hid (And.intro h0 (And.intro h1 (And.intro h2 h3)))
  clear h0 h1 h2 h3 hP hI hann hms
  go_enter Tryz.func21, Tryz.ntmps21
  go_wp2_with fail
  generalize (w.alloc (.cells #[.slice none 0 0, .slice none 0 0, .slice none 0 0, .slice none 0 0] 32)) = W at hb0 hX hsz HRe ⊢
  refine HRe.out.mono ?_
  rintro e w1 ⟨gs, ms', rfl, hm', hmk, hb1⟩
  obtain rfl : ms = ms' := HMS.out.uniq hm'
  have hbw1 := bon hb0 hb1
  obtain ⟨h0, h1, h2, h3⟩ := H4.out
  have HOwn := Lib.hid (l08Own_c b A0 t0.length c0 t0 A1 t1.length c1 t1 A2 t2.length c2 t2 A3 t3.length c3 t3 B w1 (HP.out.next hbw1) (h0.next hbw1 hB) (h1.next hbw1 hB) (h2.next hbw1 hB) (h3.next hbw1 hB) (Nat.le_trans hB hbw1.size) s0.1 s0.2 s1.1 s1.2 hmx HI.out.sm.1 HI.out.sm.2)
  have hX1 := hX.next hb1
  have hgsl := (hmk.lt gs rfl).2
  clear hm' h0 h1 h2 h3 hX HRe
  go_wp2_with fail
  refine HOwn.out.mono ?_
  rintro e w2 ⟨C0, e0, C1, e1, C2, e2, C3, e3, rfl, hT0, hT1, hC, hR, hb2⟩
  have hs2 := hb2.size
  have hbw2 := bon hbw1 hb2
  have hs1 := hbw1.size
  have hs0 := hb1.size
  have hmk2 := own_below hmk hb2
  have hbA := bnew w2 (.cells #[.slice C0 t0.length e0, .slice C1 t1.length e1, .slice C2 t2.length e2, .slice C3 t3.length e3] 32)
  have hG : BlkIs (w2.alloc (.cells #[.slice C0 t0.length e0, .slice C1 t1.length e1, .slice C2 t2.length e2, .slice C3 t3.length e3] 32)) w2.heap.size 32 #[.slice C0 t0.length e0, .slice C1 t1.length e1, .slice C2 t2.length e2, .slice C3 t3.length e3] := blk_new _ _ _ _ rfl
  have hM : AnM (w2.alloc (.cells #[.slice C0 t0.length e0, .slice C1 t1.length e1, .slice C2 t2.length e2, .slice C3 t3.length e3] 32)) w.heap.size C0 C1 C2 e2 C3 e3 t0 t1 t2 t3 := (AnM.mk hT0 hT1 (own_less hC (by omega)) (hR.less (by omega))).next hbA
  have hXA := (hX1.next hb2).next hbA
  have hmkA := own_below hmk2 hbA
  have hbF := bon hbw2 hbA
  clear hT0 hT1 hC hR hX1 HOwn hmk hmk2
  go_wp2_with fail
  generalize w2.alloc (.cells #[.slice C0 t0.length e0, .slice C1 t1.length e1, .slice C2 t2.length e2, .slice C3 t3.length e3] 32) = V at hG hM hXA hbF hbA hmkA ⊢
  go_loopw [5] (fun z wr => ∃ (i : Nat) (xs : List (Int × Int)) (ps : List P2) (D0 : Option Addr) (g0 : Nat) (D1 : Option Addr) (g1 : Nat) (D2 : Option Addr) (g2 : Nat) (D3 : Option Addr) (g3 : Nat), z = .int .i64 ((i : Int) - 1) ∧ Hid (DrS ms i R xs ps) ∧ BlkIs wr w2.heap.size 32 #[.slice D0 t0.length g0, .slice D1 t1.length g1, .slice D2 xs.length g2, .slice D3 ps.length g3] ∧ AnM wr w.heap.size D0 D1 D2 g2 D3 g3 t0 t1 xs ps ∧ BlkIs wr w.heap.size 32 #[.slice none 0 0, .slice none 0 0, .slice none 0 0, .slice none 0 0] ∧ Below w.heap.size w wr ∧ w2.heap.size < wr.heap.size ∧ wr.ownsRow W.heap.size 4 1 (.slice (some ⟨gs, 0, none⟩) t2.length t2.length) t2.length (ms.map Value.bool)) (fun z _ => (intOf z + 1).toNat)
  case atStart => exact ⟨t2.length, t2, t3, _, _, _, _, _, _, _, _, rfl, HI, hG, hM, hXA, hbF, hG.lt, hmkA⟩
  case round =>
    clear hG hM hXA hbF hbA hmkA
    obtain ⟨i, xs, ps, D0, g0, D1, g1, D2, g2, D3, g3, rfl, hI, hG, hM, hX, hb, hsw, hmkr⟩ := hrel
    rcases Nat.eq_zero_or_pos i with rfl | hi
    · have HR := Lib.hid hI.out.res
      have z0 := hG.cell 0
      have z1 := hG.cell 1
      have z2 := hG.cell 2
      have z3 := hG.cell 3
      simp at z0 z1 z2 z3
      have f0 := hX.frozen 0
      have f1 := hX.frozen 1
      have f2 := hX.frozen 2
      have f3 := hX.frozen 3
      have y0 := hX.cell 0
      have y1 := hX.cell 1
      have y2 := hX.cell 2
      have y3 := hX.cell 3
      simp at y0 y1 y2 y3
      obtain ⟨hF, hgr⟩ := fill4 hX (.slice D0 t0.length g0) (.slice D1 t1.length g1) (.slice D2 xs.length g2) (.slice D3 ps.length g3)
      have r0 := hF.cell 0
      have r1 := hF.cell 1
      have r2 := hF.cell 2
      have r3 := hF.cell 3
      simp at r0 r1 r2 r3
      have HA := Lib.hid (hM.kept hgr (blk_not hX (by decide)) (blk_not hX (by decide)) (blk_not hX (by decide)) (blk_not hX (by decide)))
      have hbE := hb.trans (only_below hgr (Nat.le_refl _) hb.size)
      have hz0 : ((0 : Nat) : Int) - 1 = -1 := rfl
      rw [hz0]
      clear hF hgr hM hX hG hI hz0
      go_wp2_with fail
      refine bodyPost_ret (v := .agg #[.slice D0 t0.length g0, .slice D1 t1.length g1, .slice D2 xs.length g2, .slice D3 ps.length g3]) (by simp [results, Tryz.results21, go_sem, r0, r1, r2, r3]) rfl ?_
      rw [HR.out]
      exact ⟨_, _, _, _, _, _, _, _, rfl, HA.out, hbE⟩
    · obtain ⟨k, rfl⟩ : ∃ k, i = k + 1 := ⟨i - 1, by omega⟩
      have hki : ((k + 1 : Nat) : Int) - 1 = (k : Int) := by omega
      rw [hki]
      have hxl := hI.out.len
      have hxm := hI.out.max
      have hmm := hI.out.mlen
      have hkn : (k : Int) < (t2.length : Int) := by omega
      obtain ⟨bk, hbk⟩ : ∃ bk, ms[k]? = some bk := ⟨ms[k]'(by omega), List.getElem?_eq_getElem _⟩
      have hc := hmkr.cellAt k (by omega)
      rw [List.getElem?_map, hbk] at hc
      cases bk with
      | true =>
        have hc' : wr.cell? ⟨gs, k, none⟩ = some (.bool true) := hc
        have HN := Lib.hid (hI.out.no hbk)
        clear hc hbk hI hki
        go_wp2_with fail
        go_roundw
        case rel => exact ⟨k, xs, ps, _, _, _, _, _, _, _, _, by go_num, HN, hG, hM, hX, hb, hsw, hmkr⟩
        case measure => simp [intOf]
      | false =>
        have hc' : wr.cell? ⟨gs, k, none⟩ = some (.bool false) := hc
        have HY := Lib.hid (hI.out.yes hbk)
        have hbq := bnew wr (.cells #[] 65)
        have HSP := Lib.hid (l09Splice_c w2.heap.size w.heap.size D0 g0 D1 g1 D2 g2 D3 g3 t0 t1 xs ps k wr.heap.size _ (hG.next hbq) (hM.next hbq) HS0.out HS1.out hxm hI.out.sm (by omega) hI.out.bc hI.out.bp)
        have hGq := hG.next hbq
        have hXq := hX.next hbq
        have hbQ := bon hb hbq
        have hmq := own_below hmkr hbq
        clear hc hbk hI hki
        go_wp2_with fail
        refine HSP.out.mono ?_
        rintro e w6 ⟨E0, j0, E1, j1, E2, j2, E3, j3, rfl, hA, hb6⟩
        have hG6 := hGq.next hb6
        have hX6 := hXq.next hb6
        have hb06 := bon hbQ hb6
        have hm6 := own_below hmq hb6
        have y0 := hG6.frozen 0
        have y1 := hG6.frozen 1
        have y2 := hG6.frozen 2
        have y3 := hG6.frozen 3
        have u0 := hG6.cell 0
        have u1 := hG6.cell 1
        have u2 := hG6.cell 2
        have u3 := hG6.cell 3
        simp at u0 u1 u2 u3
        obtain ⟨hF, hgr⟩ := fill4 hG6 (.slice E0 t0.length j0) (.slice E1 t1.length j1) (.slice E2 (leaveC k xs).length j2) (.slice E3 (leaveP k ps).length j3)
        have hA7 := (hA.kept hgr (blk_not hG6 (by decide)) (blk_not hG6 (by decide)) (blk_not hG6 (by decide)) (blk_not hG6 (by decide))).less hbQ.size
        have hne : w.heap.size ≠ w2.heap.size := by omega
        have hX7 := (((hX6.far hne 0 (.slice E0 t0.length j0)).far hne 1 (.slice E1 t1.length j1)).far hne 2 (.slice E2 (leaveC k xs).length j2)).far hne 3 (.slice E3 (leaveP k ps).length j3)
        have hb7 := hb06.trans (only_below hgr (show w.heap.size ≤ w2.heap.size by omega) hb06.size)
        have hm7 := hm6.kept hgr (.inr (fun e => by have e' : gs = w2.heap.size := Option.some.inj e; omega))
        have hsw7 := hF.lt
        clear hG6 hX6 hgr hA HSP hm6 hmq
        go_wp2_with fail
        go_roundw
        case rel => exact ⟨k, leaveC k xs, leaveP k ps, _, _, _, _, _, _, _, _, by go_num, HY, hF, hA7, hX7, hb7, hsw7, hm7⟩
        case measure => simp [intOf]
section
variable (A0 : Option Addr) (n0 c0 : Nat) (t0 : List (Int × List Int)) (A1 : Option Addr) (n1 c1 : Nat) (t1 : List (Int × List Int)) (A2 : Option Addr) (n2 c2 : Nat) (t2 : List (Int × Int)) (A3 : Option Addr) (n3 c3 : Nat) (t3 : List P2) (w : World) (h0 : InTS w w.heap.size A0 n0 t0) (h1 : InTS w w.heap.size A1 n1 t1) (h2 : InC w w.heap.size A2 n2 t2) (h3 : InP2 w w.heap.size A3 n3 t3) (hn0 : n0 ≤ 1048576) (he0 : totT t0 ≤ 1048576) (hn1 : n1 ≤ 1048576) (he1 : totT t1 ≤ 1048576) (hn2 : n2 ≤ 1048576) (hn3 : n3 ≤ 1048576) (he3 : totP2 t3 ≤ 1048576)
include h0 h1 h2 h3 hn0 he0 hn1 he1 hn2 hn3 he3
set_option maxRecDepth 100000 in
set_option maxHeartbeats 4000000 in
theorem specUnre_no (hv : annB t0 t1 t2 t3 = false) :
    Calls Tryz.prog 6 #[.agg #[.slice A0 n0 c0, .slice A1 n1 c1, .slice A2 n2 c2, .slice A3 n3 c3]] w fun e w' => AnS w w' e 0 0 0 0 [] [] [] [] false := by
  have hb0 : Below w.heap.size w ((w.alloc (.cells #[.slice A0 n0 c0, .slice A1 n1 c1, .slice A2 n2 c2, .slice A3 n3 c3] 32)).alloc (.cells #[.slice none 0 0, .slice none 0 0, .slice none 0 0, .slice none 0 0] 32)) := bon (bnew _ _) (bnew _ _)
  have hP : BlkIs ((w.alloc (.cells #[.slice A0 n0 c0, .slice A1 n1 c1, .slice A2 n2 c2, .slice A3 n3 c3] 32)).alloc (.cells #[.slice none 0 0, .slice none 0 0, .slice none 0 0, .slice none 0 0] 32)) w.heap.size 32 #[.slice A0 n0 c0, .slice A1 n1 c1, .slice A2 n2 c2, .slice A3 n3 c3] := (blk_new w _ _ _ rfl).next (bnew _ _)
  have hX : BlkIs ((w.alloc (.cells #[.slice A0 n0 c0, .slice A1 n1 c1, .slice A2 n2 c2, .slice A3 n3 c3] 32)).alloc (.cells #[.slice none 0 0, .slice none 0 0, .slice none 0 0, .slice none 0 0] 32)) (w.heap.size + 1) 32 #[.slice none 0 0, .slice none 0 0, .slice none 0 0, .slice none 0 0] := blk_new _ _ _ _ (by simp)
  have HC0 := l08Is_c w.heap.size A0 n0 c0 t0 A1 n1 c1 t1 A2 n2 c2 t2 A3 n3 c3 t3 w.heap.size _ hP (h0.next hb0 (Nat.le_refl _)) (h1.next hb0 (Nat.le_refl _)) (h2.next hb0 (Nat.le_refl _)) (h3.next hb0 (Nat.le_refl _)) hb0.size hn0 he0 hn1 he1 hn2 hn3 he3
  rw [hv] at HC0
  have HC := Lib.hid HC0
  clear HC0 hv h0 h1 h2 h3
  go_enter Tryz.func6, Tryz.ntmps6
  go_wp2_with fail
  generalize ((w.alloc (.cells #[.slice A0 n0 c0, .slice A1 n1 c1, .slice A2 n2 c2, .slice A3 n3 c3] 32)).alloc (.cells #[.slice none 0 0, .slice none 0 0, .slice none 0 0, .slice none 0 0] 32)) = W at hb0 hP hX HC ⊢
  refine HC.out.mono ?_
  rintro e w1 ⟨rfl, hb1⟩
  have hX1 := hX.next hb1
  have f0 := hX1.frozen 0
  have f1 := hX1.frozen 1
  have f2 := hX1.frozen 2
  have f3 := hX1.frozen 3
  have y0 := hX1.cell 0
  have y1 := hX1.cell 1
  have y2 := hX1.cell 2
  have y3 := hX1.cell 3
  simp at y0 y1 y2 y3
  obtain ⟨hF, hgr⟩ := fill4 hX1 (.slice none 0 0) (.slice none 0 0) (.slice none 0 0) (.slice none 0 0)
  have r0 := hF.cell 0
  have r1 := hF.cell 1
  have r2 := hF.cell 2
  have r3 := hF.cell 3
  simp at r0 r1 r2 r3
  have hbF := (bon hb0 hb1).trans (only_below hgr (Nat.le_succ _) (bon hb0 hb1).size)
  clear hgr hF hX1
  go_wp2_with fail
  refine bodyPost_ret (v := .tuple #[.agg #[.slice none 0 0, .slice none 0 0, .slice none 0 0, .slice none 0 0], .bool false]) (by simp [results, Tryz.results6, go_sem, r0, r1, r2, r3]) rfl ?_
  exact ⟨none, 0, none, 0, none, 0, none, 0, rfl, inTS_none _ _, inTS_none _ _, inC_none _ _, inP2_none _ _, hbF⟩

set_option maxRecDepth 100000 in
set_option maxHeartbeats 4000000 in
theorem specUnre_yes (hv : annB t0 t1 t2 t3 = true) (ms : List Bool) (hms : MarksOf t2 (fromP (atsP t3)) ms) :
    Calls Tryz.prog 6 #[.agg #[.slice A0 n0 c0, .slice A1 n1 c1, .slice A2 n2 c2, .slice A3 n3 c3]] w fun e w' => AnS w w' e n0 n1 (droN ms n2 (t2, t3)).1.length (droN ms n2 (t2, t3)).2.length t0 t1 (droN ms n2 (t2, t3)).1 (droN ms n2 (t2, t3)).2 true := by
  have hb0 : Below w.heap.size w ((w.alloc (.cells #[.slice A0 n0 c0, .slice A1 n1 c1, .slice A2 n2 c2, .slice A3 n3 c3] 32)).alloc (.cells #[.slice none 0 0, .slice none 0 0, .slice none 0 0, .slice none 0 0] 32)) := bon (bnew _ _) (bnew _ _)
  have hP : BlkIs ((w.alloc (.cells #[.slice A0 n0 c0, .slice A1 n1 c1, .slice A2 n2 c2, .slice A3 n3 c3] 32)).alloc (.cells #[.slice none 0 0, .slice none 0 0, .slice none 0 0, .slice none 0 0] 32)) w.heap.size 32 #[.slice A0 n0 c0, .slice A1 n1 c1, .slice A2 n2 c2, .slice A3 n3 c3] := (blk_new w _ _ _ rfl).next (bnew _ _)
  have hX : BlkIs ((w.alloc (.cells #[.slice A0 n0 c0, .slice A1 n1 c1, .slice A2 n2 c2, .slice A3 n3 c3] 32)).alloc (.cells #[.slice none 0 0, .slice none 0 0, .slice none 0 0, .slice none 0 0] 32)) (w.heap.size + 1) 32 #[.slice none 0 0, .slice none 0 0, .slice none 0 0, .slice none 0 0] := blk_new _ _ _ _ (by simp)
  have HC0 := l08Is_c w.heap.size A0 n0 c0 t0 A1 n1 c1 t1 A2 n2 c2 t2 A3 n3 c3 t3 w.heap.size _ hP (h0.next hb0 (Nat.le_refl _)) (h1.next hb0 (Nat.le_refl _)) (h2.next hb0 (Nat.le_refl _)) (h3.next hb0 (Nat.le_refl _)) hb0.size hn0 he0 hn1 he1 hn2 hn3 he3
  rw [hv] at HC0
  have HC := Lib.hid HC0
  have hl0 := h0.1
  have hl1 := h1.1
  have hl2 := h2.1
  have hl3 := h3.1
  subst hl0 hl1 hl2 hl3
  obtain ⟨s0, s1, s2, s3, s3'⟩ := annB_small hv
  have hbd := annB_bnd hv
  have hI : DrS ms t2.length (droN ms t2.length (t2, t3)) t2 t3 := ⟨rfl, Nat.le_refl _, by rw [hms.1]; exact Nat.le_refl _, by omega, hbd.1, hbd.2, ⟨by omega, s3'⟩, droN_pts hms⟩
  have HIdle : Hid (∀ x, Below w.heap.size w x → BlkIs x w.heap.size 32 #[.slice A0 t0.length c0, .slice A1 t1.length c1, .slice A2 t2.length c2, .slice A3 t3.length c3] → Calls Tryz.prog 21 #[.pointer (some ⟨w.heap.size, 0, none⟩)] x fun e w' => ∃ C0 e0 C1 e1 C2 e2 C3 e3, e = .returned (.agg #[.slice C0 t0.length e0, .slice C1 t1.length e1, .slice C2 (droN ms t2.length (t2, t3)).1.length e2, .slice C3 (droN ms t2.length (t2, t3)).2.length e3]) ∧ AnM w' x.heap.size C0 C1 C2 e2 C3 e3 t0 t1 (droN ms t2.length (t2, t3)).1 (droN ms t2.length (t2, t3)).2 ∧ Below x.heap.size x w') :=
    fun x hx hPx => l09Drop_c w.heap.size 0 A0 c0 t0 A1 c1 t1 A2 c2 t2 A3 c3 t3 w.heap.size x _ ms hPx (h0.next hx (Nat.le_refl _)) (h1.next hx (Nat.le_refl _)) (h2.next hx (Nat.le_refl _)) (h3.next hx (Nat.le_refl _)) hx.size s0 s1 hI hv hms
  generalize droN ms t2.length (t2, t3) = R at HIdle ⊢
  clear HC0 hv h0 h1 h2 h3 s0 s1 s2 s3 s3' hbd hI
  go_enter Tryz.func6, Tryz.ntmps6
  go_wp2_with fail
  generalize ((w.alloc (.cells #[.slice A0 t0.length c0, .slice A1 t1.length c1, .slice A2 t2.length c2, .slice A3 t3.length c3] 32)).alloc (.cells #[.slice none 0 0, .slice none 0 0, .slice none 0 0, .slice none 0 0] 32)) = W at hb0 hP hX HC ⊢
  refine HC.out.mono ?_
  rintro e w1 ⟨rfl, hb1⟩
  have hb01 := bon hb0 hb1
  have HG := Lib.hid (HIdle.out w1 hb01 (hP.next hb1))
  have HX1 := Lib.hid (hX.next hb1)
  clear HIdle hP hX HC
  go_wp2_with fail
  refine HG.out.mono ?_
  rintro e w2 ⟨C0, e0, C1, e1, C2, e2, C3, e3, rfl, hA, hb2⟩
  have hX1 := HX1.out.next hb2
  have f0 := hX1.frozen 0
  have f1 := hX1.frozen 1
  have f2 := hX1.frozen 2
  have f3 := hX1.frozen 3
  have y0 := hX1.cell 0
  have y1 := hX1.cell 1
  have y2 := hX1.cell 2
  have y3 := hX1.cell 3
  simp at y0 y1 y2 y3
  obtain ⟨hF, hgr⟩ := fill4 hX1 (.slice C0 t0.length e0) (.slice C1 t1.length e1) (.slice C2 R.1.length e2) (.slice C3 R.2.length e3)
  have r0 := hF.cell 0
  have r1 := hF.cell 1
  have r2 := hF.cell 2
  have r3 := hF.cell 3
  simp at r0 r1 r2 r3
  have hb02 := bon hb01 hb2
  have hbF := hb02.trans (only_below hgr (Nat.le_succ _) hb02.size)
  have hA2 := hA.kept hgr (blk_not hX1 (by decide)) (blk_not hX1 (by decide)) (blk_not hX1 (by decide)) (blk_not hX1 (by decide))
  obtain ⟨A3', c3', hv3, hPt3⟩ := hA2.f3.out
  injection hv3 with i1 i2 i3
  subst i1
  have HQ := Lib.hid (And.intro hA2.f0.inn (And.intro hA2.f1.inn (And.intro (OwnC.of_own hA2.f2 rfl).all hPt3.inn)))
  clear hF hgr hA hA2 hX1 HX1 HG i2 i3 hPt3
  go_wp2_with fail
  refine bodyPost_ret (v := .tuple #[.agg #[.slice C0 t0.length e0, .slice C1 t1.length e1, .slice C2 R.1.length e2, .slice C3 R.2.length e3], .bool true]) (by simp [results, Tryz.results6, go_sem, r0, r1, r2, r3]) rfl ?_
  exact ⟨C0, e0, C1, e1, C2, e2, C3, e3, rfl, HQ.out.1, HQ.out.2.1, HQ.out.2.2.1, HQ.out.2.2.2, hbF⟩
end
end Go.Proofs.YtdmcpabpjhinhaaGreatDoor

/-! What is reached, in the program's optimiser. Conditions: valid annotated code; the library's table of the lowest bits as its initialiser lays it. -/
namespace Go.Proofs.YtdmcpabpjhinhaaGreatDoor
set_option linter.unusedVariables false
open Go.RowKit

/-- Two sets are compared as a whole. -/
theorem eqS_run (w : World) (a b c d : Int) : (Op.equalIn 10000 98 (.agg #[.int .u64 a, .int .u64 b]) (.agg #[.int .u64 c, .int .u64 d])).run Tryz.prog w = .ok (a == c && b == d) w := by
  have u3 := Tryz.underlying96
  have a3 := Tryz.isAgg96
  have z3 := Tryz.sizeOf96
  rw [show (10000 : Nat) = 9999 + 1 from rfl, Op.equalIn]
  simp only [Sem.run_bind, run_underlying Tryz.underlying98, Result.andThen_ok]
  simp only [Std.Legacy.Range.forIn_eq_forIn_range', Std.Legacy.Range.size, Nat.sub_zero, Nat.add_sub_cancel, Nat.div_one, List.range'_succ, List.range'_zero, List.forIn_cons, List.forIn_nil]
  go_simp
  by_cases h1 : a = c <;> by_cases h2 : b = d <;> simp [h1, h2]
theorem set_eq (S T : Nat) : (((loW S : Nat) : Int) == ((loW T : Nat) : Int) && ((hiW S : Nat) : Int) == ((hiW T : Nat) : Int)) = decide (S = T) := by
  by_cases h : S = T
  · subst h; simp
  · rw [decide_eq_false h]
    have : ¬ (loW S = loW T ∧ hiW S = hiW T) := fun e => h (by
      have h1 := Nat.mod_add_div S (2 ^ 64)
      have h2 := Nat.mod_add_div T (2 ^ 64)
      unfold loW hiW at e
      rw [e.1, e.2] at h1
      exact h1.symm.trans h2)
    by_cases h1 : loW S = loW T
    · have h2 : hiW S ≠ hiW T := fun e => this ⟨h1, e⟩
      simp [h1]; omega
    · have h1' : ¬ ((loW S : Nat) : Int) = ((loW T : Nat) : Int) := by omega
      simp [h1']

set_option maxRecDepth 100000 in
set_option maxHeartbeats 1000000 in
theorem pointed_c (o : Nat) (v0 v1 v2 : Value) (D : Option Addr) (n d B : Nat) (ps : List P2) (w : World) (hb : w.cell? ⟨o, 3, none⟩ = some (.slice D n d)) (h3 : InP2 w B D n ps) (hB : B ≤ w.heap.size) (hn : n ≤ 1000) (hp : ∀ p ∈ atsP ps, 0 ≤ p ∧ p < 128) :
    Calls Tryz.prog 85 #[.pointer (some ⟨o, 0, none⟩)] w fun e w' => e = .returned (.agg #[.int .u64 (loW (putsS 0 (atsP ps)) : Nat), .int .u64 (hiW (putsS 0 (atsP ps)) : Nat)]) ∧ Below w.heap.size w w' := by
  have hb0 := bnew w (.cells #[.int .u64 0, .int .u64 0] 98)
  have hR : BlkIs (w.alloc (.cells #[.int .u64 0, .int .u64 0] 98)) w.heap.size 98 #[.int .u64 0, .int .u64 0] := blk_new _ _ _ _ rfl
  have HE := Lib.hid (eachAt_c D n d B ps (w.alloc (.cells #[.int .u64 0, .int .u64 0] 98)) (h3.next hb0 hB) (Nat.le_trans hB hb0.size) (by omega))
  have p3 := cell_next hb hb0
  have HPP := Lib.hid hp
  clear h3 hb hp
  go_enter Tryz.func85, Tryz.ntmps85
  go_wp2_with fail
  generalize w.alloc (.cells #[.int .u64 0, .int .u64 0] 98) = W at hb0 hR HE p3 ⊢
  refine HE.out.mono ?_
  rintro e w1 ⟨g, rfl, hO, hb1⟩
  have HPL := Lib.hid (placesOf_c (some ⟨g, 0, none⟩) n n w1.heap.size (atsP ps) w1 hO.all (Nat.le_refl _) (by omega) HPP.out)
  have hR1 := hR.next hb1
  clear hO HE hR
  go_wp2_with fail
  refine HPL.out.mono ?_
  rintro e w2 ⟨rfl, hb2⟩
  have hR2 := hR1.next hb2
  have hb02 := bon hb0 (bon hb1 hb2)
  obtain ⟨S, hS⟩ : ∃ S, putsS 0 (atsP ps) = S := ⟨_, rfl⟩
  rw [hS] at HPL ⊢
  have HS := Lib.hid hS
  clear hS
  have y0 := hR2.cell 0
  have y1 := hR2.cell 1
  simp at y0 y1
  have f0 := hR2.frozen 0
  have f1 := hR2.frozen 1
  have hR3 := (hR2.set 0 (.int .u64 (loW S : Nat))).set 1 (.int .u64 (hiW S : Nat))
  simp at hR3
  have r0 := hR3.cell 0
  have r1 := hR3.cell 1
  simp at r0 r1
  have hb3 := (hb02.setCell (p := ⟨w.heap.size, 0, none⟩) (Nat.le_refl _) (.int .u64 (loW S : Nat))).setCell (p := ⟨w.heap.size, 1, none⟩) (Nat.le_refl _) (.int .u64 (hiW S : Nat))
  clear hR1 hR2 HPL
  go_wp2_with fail
  refine bodyPost_ret (v := .agg #[.int .u64 (loW S : Nat), .int .u64 (hiW S : Nat)]) (by simp [results, Tryz.results85, go_sem, r0, r1]) rfl ?_
  exact ⟨by rw [HS.out], hb3⟩

/-- What reached holds in memory: its result's box, the set so far, the one before, the graph, the table. -/
structure RchM (wc : World) (x gb bb n : Nat) (G : Nat → Nat) (R Bf : Nat) (W : World) : Prop where
  res : BlkIs W wc.heap.size 98 #[.int .u64 0, .int .u64 0]
  now : BlkIs W x 98 #[.int .u64 (loW R : Nat), .int .u64 (hiW R : Nat)]
  bef : BlkIs W bb 98 #[.int .u64 (loW Bf : Nat), .int .u64 (hiW Bf : Nat)]
  gr : GrAt W gb n G
  tab : TabZ W
  below : Below wc.heap.size wc W
  ne : wc.heap.size < x ∧ x < gb ∧ gb < bb
  tb : 1 < wc.heap.size
section
variable {wc W W1 : World} {x gb bb n R Bf : Nat} {G : Nat → Nat}
theorem RchM.keep (h : RchM wc x gb bb n G R Bf W) (hb : Below W.heap.size W W1) : RchM wc x gb bb n G R Bf W1 := ⟨h.res.next hb, h.now.next hb, h.bef.next hb, h.gr.next hb, h.tab.next hb, bon h.below hb, h.ne, h.tb⟩
theorem RchM.drew (h : RchM wc x gb bb n G R Bf W) : RchM wc x gb bb n G R Bf W.drew := h.keep ((Below.refl _ _).drew)
theorem RchM.put (h : RchM wc x gb bb n G R Bf W) (S : Nat) : RchM wc x gb bb n G S Bf ((W.setCell ⟨x, 0, none⟩ (.int .u64 (loW S : Nat))).setCell ⟨x, 1, none⟩ (.int .u64 (hiW S : Nat))) := by
  have hn := (h.now.set 0 (.int .u64 (loW S : Nat))).set 1 (.int .u64 (hiW S : Nat))
  simp at hn
  have hg := only_trans (only_set (w := W) (g := x) (i := 0) (x := .int .u64 (loW S : Nat))) (only_set (w := W.setCell ⟨x, 0, none⟩ (.int .u64 (loW S : Nat))) (g := x) (i := 1) (x := .int .u64 (hiW S : Nat)))
  have h1 := h.ne
  have h2 := h.tb
  exact ⟨h.res.grown hg (fun e => by have := Option.some.inj e; omega), hn, h.bef.grown hg (fun e => by have := Option.some.inj e; omega), fun k hk => ⟨cell_grown (h.gr k hk).1 hg (fun e => by have := Option.some.inj e; omega), cell_grown (h.gr k hk).2 hg (fun e => by have := Option.some.inj e; omega)⟩,
    fun j hj => cell_grown (h.tab j hj) hg (fun e => by have := Option.some.inj e; omega), h.below.grown hg h.below.size (fun j e => by have := Option.some.inj e; omega), h.ne, h.tb⟩
theorem RchM.save (h : RchM wc x gb bb n G R Bf W) (S : Nat) : RchM wc x gb bb n G R S ((W.setCell ⟨bb, 0, none⟩ (.int .u64 (loW S : Nat))).setCell ⟨bb, 1, none⟩ (.int .u64 (hiW S : Nat))) := by
  have hn := (h.bef.set 0 (.int .u64 (loW S : Nat))).set 1 (.int .u64 (hiW S : Nat))
  simp at hn
  have hg := only_trans (only_set (w := W) (g := bb) (i := 0) (x := .int .u64 (loW S : Nat))) (only_set (w := W.setCell ⟨bb, 0, none⟩ (.int .u64 (loW S : Nat))) (g := bb) (i := 1) (x := .int .u64 (hiW S : Nat)))
  have h1 := h.ne
  have h2 := h.tb
  exact ⟨h.res.grown hg (fun e => by have := Option.some.inj e; omega), h.now.grown hg (fun e => by have := Option.some.inj e; omega), hn, fun k hk => ⟨cell_grown (h.gr k hk).1 hg (fun e => by have := Option.some.inj e; omega), cell_grown (h.gr k hk).2 hg (fun e => by have := Option.some.inj e; omega)⟩,
    fun j hj => cell_grown (h.tab j hj) hg (fun e => by have := Option.some.inj e; omega), h.below.grown hg h.below.size (fun j e => by have := Option.some.inj e; omega), h.ne, h.tb⟩
/-- The set before, in a block of its own. -/
theorem RchM.fresh (h : RchM wc x gb bb n G R Bf W) : RchM wc x gb W.heap.size n G R Bf (W.alloc (.cells #[.int .u64 (loW Bf : Nat), .int .u64 (hiW Bf : Nat)] 98)) := by
  have k := h.keep (bnew W (.cells #[.int .u64 (loW Bf : Nat), .int .u64 (hiW Bf : Nat)] 98))
  have h1 := h.ne
  have h2 := h.bef.lt
  exact ⟨k.res, k.now, blk_new _ _ _ _ rfl, k.gr, k.tab, k.below, ⟨h1.1, h1.2.1, by omega⟩, k.tb⟩
end
/-- A set that lies in a block, as memory tells. -/
def readZ (w : World) (g : Nat) : Nat := match w.heap[g]? with
  | some (.cells cs _ _) => (intOf (cs.getD 0 undef)).toNat + 2 ^ 64 * (intOf (cs.getD 1 undef)).toNat
  | _ => 0
theorem readZ_is {w : World} {g S : Nat} (h : BlkIs w g 98 #[.int .u64 (loW S : Nat), .int .u64 (hiW S : Nat)]) : readZ w g = S := by
  unfold readZ
  rw [h]
  show loW S + 2 ^ 64 * hiW S = S
  exact Nat.mod_add_div S (2 ^ 64)
def leftZ (R Bf : Nat) : Nat := if R = Bf then 0 else lackS R + 1
def blkOf : Value → Nat
  | .pointer (some a) => a.block
  | _ => 0

set_option maxRecDepth 100000 in
set_option maxHeartbeats 8000000 in
theorem reached_c (o lo m0 m1 m2 hi : Nat) (R0 : Option Addr) (n0 d0 : Nat) (R1 : Option Addr) (n1 d1 : Nat) (A : Option Addr) (d2 : Nat) (D : Option Addr) (d3 : Nat) (t0 t1 : List (Int × List Int)) (xs : List (Int × Int)) (ps : List P2) (w : World)
    (h : Opt w o lo m0 m1 m2 hi R0 n0 d0 R1 n1 d1 A d2 D d3 t0 t1 xs ps) (hann : annB t0 t1 xs ps = true) (hT : TabZ w) :
    Calls Tryz.prog 52 #[.pointer (some ⟨o, 0, none⟩)] w fun e w' => ∃ R, e = .returned (.agg #[.int .u64 (loW R : Nat), .int .u64 (hiW R : Nat)]) ∧ RchS xs (atsP ps) R ∧ R ||| allS (gN xs (atsP ps)) (bitsL R) = R ∧ Below w.heap.size w w' := by
  have hv := (annB_parts hann).1
  have hps := (annB_small hann).2.2.2.1
  have hat := annB_ats hann
  have hp := codeB_parts hv
  have hx80 : 1 ≤ xs.length ∧ xs.length ≤ 80 := ⟨hp.1, hp.2.1⟩
  have hb0 := bnew w (.cells #[.int .u64 0, .int .u64 0] 98)
  have hR : BlkIs (w.alloc (.cells #[.int .u64 0, .int .u64 0] 98)) w.heap.size 98 #[.int .u64 0, .int .u64 0] := blk_new _ _ _ _ rfl
  have hO := h.next hb0
  have hT0 := hT.next hb0
  have htb : 1 < w.heap.size := cell_lt (hT 0 (by decide))
  have hinit : RchS xs (atsP ps) (putS (putsS 0 (atsP ps)) 0) := RchS.init hx80.1 hx80.2 hat
  have hlt0 : putsS 0 (atsP ps) < 2 ^ 128 := putsS_lt (by decide) fun p h => by have := hat p h; omega
  have p3 := hO.hb.cell 3
  simp at p3
  have HPT := Lib.hid (pointed_c o (.slice R0 n0 d0) (.slice R1 n1 d1) (.slice A xs.length d2) D ps.length d3 (w.alloc (.cells #[.int .u64 0, .int .u64 0] 98)).heap.size ps _ p3 hO.o3.all (Nat.le_refl _) (by omega) (fun p h => by have := hat p h; omega))
  have HANN := Lib.hid hann
  have HIN := Lib.hid hinit
  have HGE := Lib.hid (fun k (hk : k < xs.length) t (ht : t ∈ tgtN xs k) => (tgt_in hv k xs[k] (List.getElem?_eq_getElem hk) t (by unfold tgtN at ht; rw [List.getD_eq_getElem?_getD, List.getElem?_eq_getElem hk] at ht; exact ht)).1)
  have HGL := Lib.hid (gN_lt (xs := xs) hx80.2 (atsP ps))
  clear h hT hann hv hp hat hinit
  go_enter Tryz.func52, Tryz.ntmps52
  go_wp2_with fail
  generalize w.alloc (.cells #[.int .u64 0, .int .u64 0] 98) = W at hb0 hR hO hT0 p3 HPT ⊢
  refine HPT.out.mono ?_
  rintro e w1 ⟨rfl, hb1⟩
  have HWI := Lib.hid (with_c (putsS 0 (atsP ps)) 0 w1 hlt0 (by decide))
  have hO1 := hO.next hb1
  have hT1 := hT0.next hb1
  have hR1 := hR.next hb1
  have hb01 := bon hb0 hb1
  obtain ⟨Rs, hRs⟩ : ∃ Rs, putS (putsS 0 (atsP ps)) 0 = Rs := ⟨_, rfl⟩
  have HI2 : Hid (RchS xs (atsP ps) Rs) := by rw [← hRs]; exact HIN.out
  rw [hRs] at HWI
  clear hO hT0 hR HPT p3 HIN hb0 hb1 hRs
  go_wp2_with fail
  refine HWI.out.mono ?_
  rintro e w2 ⟨rfl, hb2⟩
  have hO2 := hO1.next hb2
  have hT2 := hT1.next hb2
  have hR2 := hR1.next hb2
  have hb02 := bon hb01 hb2
  have hbA := bnew w2 (.cells #[.int .u64 (loW Rs : Nat), .int .u64 (hiW Rs : Nat)] 98)
  have hN : BlkIs (w2.alloc (.cells #[.int .u64 (loW Rs : Nat), .int .u64 (hiW Rs : Nat)] 98)) w2.heap.size 98 #[.int .u64 (loW Rs : Nat), .int .u64 (hiW Rs : Nat)] := blk_new _ _ _ _ rfl
  have hO3 := hO2.next hbA
  have hT3 := hT2.next hbA
  have hR3 := hR2.next hbA
  have hb03 := bon hb02 hbA
  have z0 := hO3.hb.cell 0
  have z1 := hO3.hb.cell 1
  have z2 := hO3.hb.cell 2
  have z3 := hO3.hb.cell 3
  simp at z0 z1 z2 z3
  have HGR := Lib.hid (graphOf_c R0 n0 d0 t0 R1 n1 d1 t1 A xs.length d2 (w2.alloc (.cells #[.int .u64 (loW Rs : Nat), .int .u64 (hiW Rs : Nat)] 98)).heap.size xs D ps.length d3 ps (w2.alloc (.cells #[.int .u64 (loW Rs : Nat), .int .u64 (hiW Rs : Nat)] 98)) hO3.o2.all hO3.o3.all (Nat.le_refl _) HANN.out)
  have hsz2 := hb02.size
  have hsR := hR2.lt
  clear hO1 hO2 hT1 hT2 hR1 hR2 HWI hb01 hb02 hb2 HANN
  go_wp2_with fail
  generalize w2.alloc (.cells #[.int .u64 (loW Rs : Nat), .int .u64 (hiW Rs : Nat)] 98) = W3 at hbA hN hO3 hT3 hR3 hb03 z0 z1 z2 z3 HGR ⊢
  have hs3 := hN.lt
  clear hO3 z0 z1 z2 z3
  refine HGR.out.mono ?_
  rintro e w4 ⟨gb, rfl, hgb, hGA, hb4⟩
  have hbZ := bnew w4 (.cells #[.int .u64 0, .int .u64 0] 98)
  obtain ⟨G, hG⟩ : ∃ G, gN xs (atsP ps) = G := ⟨_, rfl⟩
  rw [hG] at hGA HGL
  have HGG := Lib.hid hG
  have hgb4 : gb < w4.heap.size := cell_lt (hGA 0 hx80.1).1
  have hM0 : RchM w w2.heap.size gb w4.heap.size xs.length G Rs 0 (w4.alloc (.cells #[.int .u64 0, .int .u64 0] 98)) :=
    ⟨(hR3.next hb4).next hbZ, (hN.next hb4).next hbZ, blk_new _ _ _ _ rfl, hGA.next hbZ, (hT3.next hb4).next hbZ, bon (bon hb03 hb4) hbZ, ⟨hsR, by omega, hgb4⟩, htb⟩
  clear hG hR3 hN hGA hT3 hb03 hbZ HGR hgb hb4 hbA
  go_upto_region 4 with fail
  generalize w4.alloc (.cells #[.int .u64 0, .int .u64 0] 98) = W5 at hM0 ⊢
  have hne0 : ¬ Rs = 0 := fun e => by have := HI2.out.zero; rw [e, Nat.zero_testBit] at this; cases this
  go_loopw [5] (fun v wr => ∃ bb R Bf, v = .pointer (some ⟨bb, 0, none⟩) ∧ Hid (RchS xs (atsP ps) R) ∧ RchM w w2.heap.size gb bb xs.length G R Bf wr ∧ Hid (R = Bf → R ||| allS G (bitsL R) = R)) (fun v wr => leftZ (readZ wr w2.heap.size) (readZ wr (blkOf v)))
  case atStart => exact ⟨w4.heap.size, Rs, 0, rfl, HI2, hM0, Lib.hid (fun e => absurd e hne0)⟩
  case round =>
    clear hM0 HI2 hne0
    obtain ⟨bb, R, Bf, rfl, HR, hM, hfix⟩ := hrel
    have hr1 := readZ_is hM.now
    have hr2 := readZ_is hM.bef
    have y0 := hM.now.cell 0
    have y1 := hM.now.cell 1
    have z0 := hM.bef.cell 0
    have z1 := hM.bef.cell 1
    simp at y0 y1 z0 z1
    have hq := eqS_run wr (loW R : Nat) (hiW R : Nat) (loW Bf : Nat) (hiW Bf : Nat)
    rw [set_eq] at hq
    by_cases hRB : R = Bf
    · rw [decide_eq_true hRB] at hq
      have HE := Lib.hid (hfix.out hRB)
      have u0 := hM.res.cell 0
      have u1 := hM.res.cell 1
      simp at u0 u1
      have f0 := hM.res.frozen 0
      have f1 := hM.res.frozen 1
      have hR3 := (hM.res.set 0 (.int .u64 (loW R : Nat))).set 1 (.int .u64 (hiW R : Nat))
      simp at hR3
      have r0 := hR3.cell 0
      have r1 := hR3.cell 1
      simp at r0 r1
      have hb3 := (hM.below.setCell (p := ⟨w.heap.size, 0, none⟩) (Nat.le_refl _) (.int .u64 (loW R : Nat))).setCell (p := ⟨w.heap.size, 1, none⟩) (Nat.le_refl _) (.int .u64 (hiW R : Nat))
      clear hM hRB hfix hr1 hr2
      go_wp2_with fail
      refine bodyPost_ret (v := .agg #[.int .u64 (loW R : Nat), .int .u64 (hiW R : Nat)]) (by simp [results, Tryz.results52, go_sem, r0, r1]) rfl ?_
      exact ⟨R, rfl, HR.out, by rw [HGG.out]; exact HE.out, hb3⟩
    · rw [decide_eq_false hRB] at hq
      have f0 := hM.bef.frozen 0
      have f1 := hM.bef.frozen 1
      have hM1 := hM.save R
      have HAL := Lib.hid (allS_lt HGL.out (bitsL R))
      have HBE : Hid (∀ W, RchM w w2.heap.size gb bb xs.length G R R W → Calls Tryz.prog 89 #[.slice (some ⟨gb, 0, none⟩) xs.length xs.length, .agg #[.int .u64 (loW R : Nat), .int .u64 (hiW R : Nat)]] W fun e w' => e = .returned (.agg #[.int .u64 (loW (allS G (bitsL R)) : Nat), .int .u64 (hiW (allS G (bitsL R)) : Nat)]) ∧ Below W.heap.size W w') := fun W h =>
        behind_c gb xs.length xs.length R G W h.gr HGL.out HR.out.lt (fun k hk => (HR.out.ok k hk).1) h.tab (by omega)
      have HNX : Hid (RchS xs (atsP ps) (R ||| allS G (bitsL R))) := by have := HR.out.next hx80.2 HGE.out; rw [HGG.out] at this; exact this
      have HME : Hid (leftZ (R ||| allS G (bitsL R)) R < leftZ R Bf) := by
        show _ < _
        unfold leftZ
        rw [if_neg hRB]
        split
        · omega
        · rename_i hne
          exact Nat.succ_lt_succ (lackS_less HNX.out.lt (fun j hj => by rw [Nat.testBit_or, hj]; rfl) hne)
      have HFX : Hid (R ||| allS G (bitsL R) = R → (R ||| allS G (bitsL R)) ||| allS G (bitsL (R ||| allS G (bitsL R))) = R ||| allS G (bitsL R)) := fun e => by rw [e]; exact e
      clear hM hfix
      go_upto_region 6 with fail
      generalize (wr.setCell ⟨bb, 0, none⟩ (.int .u64 (loW R : Nat))).setCell ⟨bb, 1, none⟩ (.int .u64 (hiW R : Nat)) = W6 at hM1 ⊢
      have hM := hM1
      clear hM1 z0 z1 f0 f1 hq y0 y1
      refine wp_region_held_drew (S := fun _ => True) (by kernel_rfl) trivial ?_
      intro hHeld0
      refine wpAnyH_take (i := 1) (v := ?_) rfl (by kernel_rfl) (by kernel_rfl) (by kernel_rfl) (fun _ _ _ h => h) (Or.inl ⟨by kernel_rfl, ?_⟩) (by assumption) ?_
      rotate_left
      · intro w9 hS9; (try dsimp only at hS9); go_simp; (try with_reducible rfl)
      set_option linter.unusedSimpArgs false in try simp only [Act.put, List.getElem_toArray, List.getElem_cons_succ, List.getElem_cons_zero, List.setIfInBounds_toArray, List.set_cons_zero, List.set_cons_succ]
      refine wpAnyH_ready (rs := [0, 2]) (by kernel_rfl) (by simp) ?_
      refine AllReadyH.cons rfl (fun K hK => ?_) (AllReadyH.cons rfl (fun K hK => ?_) (AllReadyH.nil))
      · have y0 := hM.now.cell 0
        have y1 := hM.now.cell 1
        simp at y0 y1
        go_simp
        clear y0 y1
        refine hK.out _ _ trivial (fun hHeld1 => ?_)
        clear hK K hHeld0
        set_option linter.unusedSimpArgs false in try simp only [Act.put, List.getElem_toArray, List.getElem_cons_succ, List.getElem_cons_zero, List.setIfInBounds_toArray, List.set_cons_zero, List.set_cons_succ]
        refine wpAnyH_ready (rs := [2]) (by kernel_rfl) (by simp) ?_
        refine AllReadyH.cons rfl (fun K hK => ?_) (AllReadyH.nil)
        have y0 := hM.now.cell 0
        have y1 := hM.now.cell 1
        simp at y0 y1
        go_simp
        clear y0 y1
        refine hK.out _ _ trivial (fun hHeld2 => ?_)
        clear hK K hHeld1
        set_option linter.unusedSimpArgs false in try simp only [Act.put, List.getElem_toArray, List.getElem_cons_succ, List.getElem_cons_zero, List.setIfInBounds_toArray, List.set_cons_zero, List.set_cons_succ]
        refine wpAnyH_ready (rs := [3]) (by kernel_rfl) (by simp) ?_
        refine AllReadyH.cons rfl (fun K hK => ?_) (AllReadyH.nil)
        go_simp
        go_wp2_with (go_at_call 89; refine (HBE.out _ (by first | exact hM | exact hM.drew)).mono ?_; rintro e w3 ⟨rfl, hb4⟩)
        have hM5 : RchM w w2.heap.size gb bb xs.length G R R w3 := by first | exact (hM).keep (bstep hb4) | exact (hM).keep hb4
        refine hK.out _ _ trivial (fun hHeld6 => ?_)
        clear hK K hHeld2
        set_option linter.unusedSimpArgs false in try simp only [Act.put, List.getElem_toArray, List.getElem_cons_succ, List.getElem_cons_zero, List.setIfInBounds_toArray, List.set_cons_zero, List.set_cons_succ]
        refine wpAnyH_ready (rs := [4]) (by kernel_rfl) (by simp) ?_
        refine AllReadyH.cons rfl (fun K hK => ?_) (AllReadyH.nil)
        go_simp
        go_wp2_with (go_at_call 88; refine (or_c R _ _ HR.out.lt HAL.out).mono ?_; rintro e w7 ⟨rfl, hb8⟩)
        have hM9 : RchM w w2.heap.size gb bb xs.length G R R w7 := by first | exact (hM5).keep (bstep hb8) | exact (hM5).keep hb8
        have f0 := hM9.now.frozen 0
        have f1 := hM9.now.frozen 1
        have y0 := hM9.now.cell 0
        have y1 := hM9.now.cell 1
        simp at y0 y1
        refine hK.out _ _ trivial (fun hHeld10 => ?_)
        clear hK K hHeld6
        set_option linter.unusedSimpArgs false in try simp only [Act.put, List.getElem_toArray, List.getElem_cons_succ, List.getElem_cons_zero, List.setIfInBounds_toArray, List.set_cons_zero, List.set_cons_succ]
        refine wpAnyH_ready (rs := [5]) (by kernel_rfl) (by simp) ?_
        refine AllReadyH.cons rfl (fun K hK => ?_) (AllReadyH.nil)
        go_simp
        refine hK.out _ _ trivial (fun hHeld11 => ?_)
        clear hK K hHeld10
        set_option linter.unusedSimpArgs false in try simp only [Act.put, List.getElem_toArray, List.getElem_cons_succ, List.getElem_cons_zero, List.setIfInBounds_toArray, List.set_cons_zero, List.set_cons_succ]
        refine wpAnyH_done (by kernel_rfl) ?_ _
        have hMF := hM9.put (R ||| allS G (bitsL R))
        have q0 := hMF.bef.cell 0
        have q1 := hMF.bef.cell 1
        simp at q0 q1
        have hMG := hMF.fresh
        simp only [World.size_setCell] at hMG
        go_wp2_with fail
        go_roundw
        case rel => exact ⟨_, _, _, by first | rfl | simp, HNX, hMG, HFX⟩
        case measure =>
          have e1 := readZ_is hMG.now
          have e2 := readZ_is hMG.bef
          rw [hr1]
          refine Nat.lt_of_le_of_lt (Nat.le_of_eq (congr (congrArg leftZ e1) e2)) ?_
          show _ < leftZ R (readZ wr bb)
          rw [hr2]
          exact HME.out
      · have y0 := hM.now.cell 0
        have y1 := hM.now.cell 1
        simp at y0 y1
        go_simp
        clear y0 y1
        refine hK.out _ _ trivial (fun hHeld12 => ?_)
        clear hK K hHeld0
        set_option linter.unusedSimpArgs false in try simp only [Act.put, List.getElem_toArray, List.getElem_cons_succ, List.getElem_cons_zero, List.setIfInBounds_toArray, List.set_cons_zero, List.set_cons_succ]
        refine wpAnyH_ready (rs := [0, 3]) (by kernel_rfl) (by simp) ?_
        refine AllReadyH.cons rfl (fun K hK => ?_) (AllReadyH.cons rfl (fun K hK => ?_) (AllReadyH.nil))
        · have y0 := hM.now.cell 0
          have y1 := hM.now.cell 1
          simp at y0 y1
          go_simp
          clear y0 y1
          refine hK.out _ _ trivial (fun hHeld13 => ?_)
          clear hK K hHeld12
          set_option linter.unusedSimpArgs false in try simp only [Act.put, List.getElem_toArray, List.getElem_cons_succ, List.getElem_cons_zero, List.setIfInBounds_toArray, List.set_cons_zero, List.set_cons_succ]
          refine wpAnyH_ready (rs := [3]) (by kernel_rfl) (by simp) ?_
          refine AllReadyH.cons rfl (fun K hK => ?_) (AllReadyH.nil)
          go_simp
          go_wp2_with (go_at_call 89; refine (HBE.out _ (by first | exact hM | exact hM.drew)).mono ?_; rintro e w14 ⟨rfl, hb15⟩)
          have hM16 : RchM w w2.heap.size gb bb xs.length G R R w14 := by first | exact (hM).keep (bstep hb15) | exact (hM).keep hb15
          refine hK.out _ _ trivial (fun hHeld17 => ?_)
          clear hK K hHeld13
          set_option linter.unusedSimpArgs false in try simp only [Act.put, List.getElem_toArray, List.getElem_cons_succ, List.getElem_cons_zero, List.setIfInBounds_toArray, List.set_cons_zero, List.set_cons_succ]
          refine wpAnyH_ready (rs := [4]) (by kernel_rfl) (by simp) ?_
          refine AllReadyH.cons rfl (fun K hK => ?_) (AllReadyH.nil)
          go_simp
          go_wp2_with (go_at_call 88; refine (or_c R _ _ HR.out.lt HAL.out).mono ?_; rintro e w18 ⟨rfl, hb19⟩)
          have hM20 : RchM w w2.heap.size gb bb xs.length G R R w18 := by first | exact (hM16).keep (bstep hb19) | exact (hM16).keep hb19
          have f0 := hM20.now.frozen 0
          have f1 := hM20.now.frozen 1
          have y0 := hM20.now.cell 0
          have y1 := hM20.now.cell 1
          simp at y0 y1
          refine hK.out _ _ trivial (fun hHeld21 => ?_)
          clear hK K hHeld17
          set_option linter.unusedSimpArgs false in try simp only [Act.put, List.getElem_toArray, List.getElem_cons_succ, List.getElem_cons_zero, List.setIfInBounds_toArray, List.set_cons_zero, List.set_cons_succ]
          refine wpAnyH_ready (rs := [5]) (by kernel_rfl) (by simp) ?_
          refine AllReadyH.cons rfl (fun K hK => ?_) (AllReadyH.nil)
          go_simp
          refine hK.out _ _ trivial (fun hHeld22 => ?_)
          clear hK K hHeld21
          set_option linter.unusedSimpArgs false in try simp only [Act.put, List.getElem_toArray, List.getElem_cons_succ, List.getElem_cons_zero, List.setIfInBounds_toArray, List.set_cons_zero, List.set_cons_succ]
          refine wpAnyH_done (by kernel_rfl) ?_ _
          have hMF := hM20.put (R ||| allS G (bitsL R))
          have q0 := hMF.bef.cell 0
          have q1 := hMF.bef.cell 1
          simp at q0 q1
          have hMG := hMF.fresh
          simp only [World.size_setCell] at hMG
          go_wp2_with fail
          go_roundw
          case rel => exact ⟨_, _, _, by first | rfl | simp, HNX, hMG, HFX⟩
          case measure =>
            have e1 := readZ_is hMG.now
            have e2 := readZ_is hMG.bef
            rw [hr1]
            refine Nat.lt_of_le_of_lt (Nat.le_of_eq (congr (congrArg leftZ e1) e2)) ?_
            show _ < leftZ R (readZ wr bb)
            rw [hr2]
            exact HME.out
        · go_simp
          go_wp2_with (go_at_call 89; refine (HBE.out _ (by first | exact hM | exact hM.drew)).mono ?_; rintro e w23 ⟨rfl, hb24⟩)
          have hM25 : RchM w w2.heap.size gb bb xs.length G R R w23 := by first | exact (hM).keep (bstep hb24) | exact (hM).keep hb24
          refine hK.out _ _ trivial (fun hHeld26 => ?_)
          clear hK K hHeld12
          set_option linter.unusedSimpArgs false in try simp only [Act.put, List.getElem_toArray, List.getElem_cons_succ, List.getElem_cons_zero, List.setIfInBounds_toArray, List.set_cons_zero, List.set_cons_succ]
          refine wpAnyH_ready (rs := [0]) (by kernel_rfl) (by simp) ?_
          refine AllReadyH.cons rfl (fun K hK => ?_) (AllReadyH.nil)
          have y0 := hM25.now.cell 0
          have y1 := hM25.now.cell 1
          simp at y0 y1
          go_simp
          clear y0 y1
          refine hK.out _ _ trivial (fun hHeld27 => ?_)
          clear hK K hHeld26
          set_option linter.unusedSimpArgs false in try simp only [Act.put, List.getElem_toArray, List.getElem_cons_succ, List.getElem_cons_zero, List.setIfInBounds_toArray, List.set_cons_zero, List.set_cons_succ]
          refine wpAnyH_ready (rs := [4]) (by kernel_rfl) (by simp) ?_
          refine AllReadyH.cons rfl (fun K hK => ?_) (AllReadyH.nil)
          go_simp
          go_wp2_with (go_at_call 88; refine (or_c R _ _ HR.out.lt HAL.out).mono ?_; rintro e w28 ⟨rfl, hb29⟩)
          have hM30 : RchM w w2.heap.size gb bb xs.length G R R w28 := by first | exact (hM25).keep (bstep hb29) | exact (hM25).keep hb29
          have f0 := hM30.now.frozen 0
          have f1 := hM30.now.frozen 1
          have y0 := hM30.now.cell 0
          have y1 := hM30.now.cell 1
          simp at y0 y1
          refine hK.out _ _ trivial (fun hHeld31 => ?_)
          clear hK K hHeld27
          set_option linter.unusedSimpArgs false in try simp only [Act.put, List.getElem_toArray, List.getElem_cons_succ, List.getElem_cons_zero, List.setIfInBounds_toArray, List.set_cons_zero, List.set_cons_succ]
          refine wpAnyH_ready (rs := [5]) (by kernel_rfl) (by simp) ?_
          refine AllReadyH.cons rfl (fun K hK => ?_) (AllReadyH.nil)
          go_simp
          refine hK.out _ _ trivial (fun hHeld32 => ?_)
          clear hK K hHeld31
          set_option linter.unusedSimpArgs false in try simp only [Act.put, List.getElem_toArray, List.getElem_cons_succ, List.getElem_cons_zero, List.setIfInBounds_toArray, List.set_cons_zero, List.set_cons_succ]
          refine wpAnyH_done (by kernel_rfl) ?_ _
          have hMF := hM30.put (R ||| allS G (bitsL R))
          have q0 := hMF.bef.cell 0
          have q1 := hMF.bef.cell 1
          simp at q0 q1
          have hMG := hMF.fresh
          simp only [World.size_setCell] at hMG
          go_wp2_with fail
          go_roundw
          case rel => exact ⟨_, _, _, by first | rfl | simp, HNX, hMG, HFX⟩
          case measure =>
            have e1 := readZ_is hMG.now
            have e2 := readZ_is hMG.bef
            rw [hr1]
            refine Nat.lt_of_le_of_lt (Nat.le_of_eq (congr (congrArg leftZ e1) e2)) ?_
            show _ < leftZ R (readZ wr bb)
            rw [hr2]
            exact HME.out
end Go.Proofs.YtdmcpabpjhinhaaGreatDoor

/-! The program's DropUnreachable. Conditions: at most 2^20 elements and numbers; the library's table of the lowest bits as its initialiser lays it. -/
namespace Go.Proofs.YtdmcpabpjhinhaaGreatDoor
set_option linter.unusedVariables false
set_option linter.unusedSectionVars false
open Go.RowKit

theorem marks_bit {xs : List (Int × Int)} {ps : List Int} {ms : List Bool} {S : Nat} (hl : xs.length ≤ 80) (ht0 : ∀ k : Nat, k < xs.length → ∀ t ∈ tgtN xs k, 0 ≤ t) (hS : RchS xs ps S) (he : S ||| allS (gN xs ps) (bitsL S) = S) (hms : MarksOf xs (fromP ps) ms) : ∀ k, k < xs.length → ms[k]? = some (S.testBit k) := fun k hk => by
  have hkm : k < ms.length := by rw [hms.1]; exact hk
  have h1 : ms[k]? = some ms[k] := List.getElem?_eq_getElem hkm
  rw [h1]
  congr 1
  rw [Bool.eq_iff_iff]
  exact (hms.2 k _ h1).trans (hS.done hl ht0 he k hk).symm

set_option maxRecDepth 100000 in
set_option maxHeartbeats 8000000 in
theorem dropUnre_c (o lo m0 m1 m2 hi : Nat) (R0 : Option Addr) (n0 d0 : Nat) (R1 : Option Addr) (n1 d1 : Nat) (A : Option Addr) (d2 : Nat) (D : Option Addr) (d3 : Nat) (t0 t1 : List (Int × List Int)) (xs0 : List (Int × Int)) (ps0 : List P2) (R : List (Int × Int) × List P2) (ms : List Bool) (w : World)
    (h : Opt w o lo m0 m1 m2 hi R0 n0 d0 R1 n1 d1 A d2 D d3 t0 t1 xs0 ps0) (hI : DrS ms xs0.length R xs0 ps0) (hann : annB t0 t1 xs0 ps0 = true) (hms : MarksOf xs0 (fromP (atsP ps0)) ms) (hT : TabZ w) :
    Calls Tryz.prog 26 #[.pointer (some ⟨o, 0, none⟩)] w fun e w' => e = .returned (.pointer (some ⟨o, 0, none⟩)) ∧ Opt w' o lo m0 m1 m2 hi R0 n0 d0 R1 n1 d1 A d2 D d3 t0 t1 R.1 R.2 ∧ Below lo w w' := by
  have hmx := hI.max
  have hlo : lo ≤ w.heap.size := by have := h.hb.lt; have := h.sz; omega
  have hsz := h.sz
  have hv := (annB_parts hann).1
  have hx80 := (codeB_parts hv).2.1
  have hno := h.hb.lt
  have HRC := Lib.hid (reached_c o lo m0 m1 m2 hi R0 n0 d0 R1 n1 d1 A d2 D d3 t0 t1 xs0 ps0 w h hann hT)
  have HGE := Lib.hid (fun k (hk : k < xs0.length) t (ht : t ∈ tgtN xs0 k) => (tgt_in hv k xs0[k] (List.getElem?_eq_getElem hk) t (by unfold tgtN at ht; rw [List.getD_eq_getElem?_getD, List.getElem?_eq_getElem hk] at ht; exact ht)).1)
  have HMS := Lib.hid hms
  have H := Lib.hid h
  have HI := Lib.hid hI
  clear h hI hann hms hT hv
  go_enter Tryz.func26, Tryz.ntmps26
  go_wp2_with fail
  refine HRC.out.mono ?_
  rintro e w1 ⟨S, rfl, hRS, hfix, hb1⟩
  have HBIT := Lib.hid (marks_bit hx80 HGE.out hRS hfix HMS.out)
  have hSlt := hRS.lt
  have hbA := bnew w1 (.cells #[.int .u64 (loW S : Nat), .int .u64 (hiW S : Nat)] 98)
  have hX : BlkIs (w1.alloc (.cells #[.int .u64 (loW S : Nat), .int .u64 (hiW S : Nat)] 98)) w1.heap.size 98 #[.int .u64 (loW S : Nat), .int .u64 (hiW S : Nat)] := blk_new _ _ _ _ rfl
  have hs1 := hb1.size
  have HO := Lib.hid ((H.out.next hb1).next hbA)
  have hb0 : Below lo w (w1.alloc (.cells #[.int .u64 (loW S : Nat), .int .u64 (hiW S : Nat)] 98)) := (bon hb1 hbA).mono hlo
  have p2 := HO.out.hb.cell 2
  simp at p2
  clear hRS hfix HRC H HMS HGE
  go_wp2_with fail
  generalize w1.alloc (.cells #[.int .u64 (loW S : Nat), .int .u64 (hiW S : Nat)] 98) = W at hbA hX HO hb0 p2 ⊢
  go_loopw [4] (fun z wr => ∃ (i : Nat) (xs : List (Int × Int)) (ps : List P2), z = .int .i64 ((i : Int) - 1) ∧ i ≤ xs0.length ∧ Hid (DrS ms i R xs ps) ∧ Hid (Opt wr o lo m0 m1 m2 hi R0 n0 d0 R1 n1 d1 A d2 D d3 t0 t1 xs ps) ∧ BlkIs wr w1.heap.size 98 #[.int .u64 (loW S : Nat), .int .u64 (hiW S : Nat)] ∧ Below lo w wr) (fun z _ => (intOf z + 1).toNat)
  case atStart => exact ⟨xs0.length, xs0, ps0, rfl, Nat.le_refl _, HI, HO, hX, hb0⟩
  case round =>
    clear HI HO p2 hX hb0 hbA
    obtain ⟨i, xs, ps, rfl, hi0, hI, hP, hX, hb⟩ := hrel
    have hos := hP.out.hb.lt
    rcases Nat.eq_zero_or_pos i with rfl | hip
    · have HR := Lib.hid hI.out.res
      have hz0 : ((0 : Nat) : Int) - 1 = -1 := rfl
      rw [hz0]
      clear hz0 hI
      go_wp2_with fail
      go_ret
      rw [HR.out]
      exact ⟨rfl, hP.out, hb⟩
    · obtain ⟨k, rfl⟩ : ∃ k, i = k + 1 := ⟨i - 1, by omega⟩
      have hki : ((k + 1 : Nat) : Int) - 1 = (k : Int) := by omega
      rw [hki]
      have hxl := hI.out.len
      have hxm := hI.out.max
      have hpm := hI.out.sm.1
      have hlk : k < xs.length := by omega
      have x0 := hX.cell 0
      have x1 := hX.cell 1
      simp at x0 x1
      have hbit := HBIT.out k (by omega)
      have HH := Lib.hid (has_c S k wr hSlt (by omega))
      cases hbk : S.testBit k with
      | true =>
        rw [hbk] at hbit HH
        have HN := Lib.hid (hI.out.no hbit)
        clear hbit hbk hI hki
        go_wp2_with fail
        refine HH.out.mono ?_
        rintro e w5 ⟨rfl, hb5⟩
        have hP5 := Lib.hid (hP.out.next hb5)
        have hX5 := hX.next hb5
        have hb05 := hb.trans (hb5.mono (by omega))
        go_wp2_with fail
        go_roundw
        case rel => exact ⟨k, xs, ps, by go_num, by omega, HN, hP5, hX5, hb05⟩
        case measure => simp [intOf]
      | false =>
        rw [hbk] at hbit HH
        have HY := Lib.hid (hI.out.yes hbit)
        have HBc := Lib.hid hI.out.bc
        have HBp := Lib.hid hI.out.bp
        clear hbit hbk hI hki
        go_wp2_with fail
        refine HH.out.mono ?_
        rintro e w5 ⟨rfl, hb5⟩
        have hP5 := hP.out.next hb5
        have hX5 := hX.next hb5
        have hb05 := hb.trans (hb5.mono (by omega))
        have HL := Lib.hid (leaveOut_o o lo m0 m1 m2 hi R0 n0 d0 R1 n1 d1 A d2 D d3 t0 t1 xs ps k w5 hP5 hlk hxm hpm HBc.out HBp.out)
        clear hP5
        go_wp2_with fail
        refine HL.out.mono ?_
        rintro e w6 ⟨rfl, hP6, ho6⟩
        have HP6 := Lib.hid hP6
        have hX6 := blk_out hX5 ho6 (.inr (by omega))
        have hs5 := hb5.size
        have hb06 := hb05.trans (ho6.below (Nat.le_refl _) (by omega))
        clear hP6
        go_wp2_with fail
        go_roundw
        case rel => exact ⟨k, leaveC k xs, leaveP k ps, by go_num, by omega, HY, HP6, hX6, hb06⟩
        case measure => simp [intOf]
section
variable (A0 : Option Addr) (n0 c0 : Nat) (t0 : List (Int × List Int)) (A1 : Option Addr) (n1 c1 : Nat) (t1 : List (Int × List Int)) (A2 : Option Addr) (n2 c2 : Nat) (t2 : List (Int × Int)) (A3 : Option Addr) (n3 c3 : Nat) (t3 : List P2) (w : World) (h0 : InTS w w.heap.size A0 n0 t0) (h1 : InTS w w.heap.size A1 n1 t1) (h2 : InC w w.heap.size A2 n2 t2) (h3 : InP2 w w.heap.size A3 n3 t3) (hn0 : n0 ≤ 1048576) (he0 : totT t0 ≤ 1048576) (hn1 : n1 ≤ 1048576) (he1 : totT t1 ≤ 1048576) (hn2 : n2 ≤ 1048576) (hn3 : n3 ≤ 1048576) (he3 : totP2 t3 ≤ 1048576)
include h0 h1 h2 h3 hn0 he0 hn1 he1 hn2 hn3 he3
set_option maxRecDepth 100000 in
set_option maxHeartbeats 4000000 in
theorem optUnre_no (hv : annB t0 t1 t2 t3 = false) :
    Calls Tryz.prog 25 #[.agg #[.slice A0 n0 c0, .slice A1 n1 c1, .slice A2 n2 c2, .slice A3 n3 c3], .func (Fn.func 26) #[] #[]] w fun e w' => AnI w w' e 0 0 0 0 [] [] [] [] false := by
  have hb0 : Below w.heap.size w ((w.alloc (.cells #[.slice A0 n0 c0, .slice A1 n1 c1, .slice A2 n2 c2, .slice A3 n3 c3] 32)).alloc (.cells #[.slice none 0 0, .slice none 0 0, .slice none 0 0, .slice none 0 0] 32)) := bon (bnew _ _) (bnew _ _)
  have hP : BlkIs ((w.alloc (.cells #[.slice A0 n0 c0, .slice A1 n1 c1, .slice A2 n2 c2, .slice A3 n3 c3] 32)).alloc (.cells #[.slice none 0 0, .slice none 0 0, .slice none 0 0, .slice none 0 0] 32)) w.heap.size 32 #[.slice A0 n0 c0, .slice A1 n1 c1, .slice A2 n2 c2, .slice A3 n3 c3] := (blk_new w _ _ _ rfl).next (bnew _ _)
  have hX : BlkIs ((w.alloc (.cells #[.slice A0 n0 c0, .slice A1 n1 c1, .slice A2 n2 c2, .slice A3 n3 c3] 32)).alloc (.cells #[.slice none 0 0, .slice none 0 0, .slice none 0 0, .slice none 0 0] 32)) (w.heap.size + 1) 32 #[.slice none 0 0, .slice none 0 0, .slice none 0 0, .slice none 0 0] := blk_new _ _ _ _ (by simp)
  have hs2 : w.heap.size + 2 ≤ (((w.alloc (.cells #[.slice A0 n0 c0, .slice A1 n1 c1, .slice A2 n2 c2, .slice A3 n3 c3] 32)).alloc (.cells #[.slice none 0 0, .slice none 0 0, .slice none 0 0, .slice none 0 0] 32))).heap.size := by simp
  have HW := Lib.hid (with_no A0 n0 c0 t0 A1 n1 c1 t1 A2 n2 c2 t2 A3 n3 c3 t3 ((w.alloc (.cells #[.slice A0 n0 c0, .slice A1 n1 c1, .slice A2 n2 c2, .slice A3 n3 c3] 32)).alloc (.cells #[.slice none 0 0, .slice none 0 0, .slice none 0 0, .slice none 0 0] 32)) ((h0.next hb0 (Nat.le_refl _)).more hb0.size) ((h1.next hb0 (Nat.le_refl _)).more hb0.size) ((h2.next hb0 (Nat.le_refl _)).more hb0.size) ((h3.next hb0 (Nat.le_refl _)).more hb0.size) hn0 he0 hn1 he1 hn2 hn3 he3 A3 n3 c3 hv)
  clear h0 h1 h2 h3 hv
  go_enter Tryz.func25, Tryz.ntmps25
  go_wp2_with fail
  generalize ((w.alloc (.cells #[.slice A0 n0 c0, .slice A1 n1 c1, .slice A2 n2 c2, .slice A3 n3 c3] 32)).alloc (.cells #[.slice none 0 0, .slice none 0 0, .slice none 0 0, .slice none 0 0] 32)) = W at hb0 hP hX hs2 HW ⊢
  have p0 := hP.cell 0
  have p1 := hP.cell 1
  have p2 := hP.cell 2
  have p3 := hP.cell 3
  simp at p0 p1 p2 p3
  refine HW.out.mono ?_
  rintro e w1 ⟨R0, d0, R1, d1, R2, d2, R3, d3, md0, md1, md2, rfl, o0, o1, o2, o3, hmd, hb1⟩
  have hbA := bnew w1 (.cells #[.slice R0 0 d0, .slice R1 0 d1, .slice R2 0 d2, .slice R3 0 d3] 32)
  have hX1 := (hX.next hb1).next hbA
  have hb01 := bon (bon hb0 hb1) hbA
  clear o0 o1 o2 o3 hX hP
  have f0 := hX1.frozen 0
  have f1 := hX1.frozen 1
  have f2 := hX1.frozen 2
  have f3 := hX1.frozen 3
  have y0 := hX1.cell 0
  have y1 := hX1.cell 1
  have y2 := hX1.cell 2
  have y3 := hX1.cell 3
  simp at y0 y1 y2 y3
  obtain ⟨hF, hgr⟩ := fill4 hX1 (.slice none 0 0) (.slice none 0 0) (.slice none 0 0) (.slice none 0 0)
  have r0 := hF.cell 0
  have r1 := hF.cell 1
  have r2 := hF.cell 2
  have r3 := hF.cell 3
  simp at r0 r1 r2 r3
  have hbF := hb01.trans (only_below hgr (Nat.le_succ _) hb01.size)
  clear hgr hF hX1
  go_wp2_with fail
  refine bodyPost_ret (v := .tuple #[.agg #[.slice none 0 0, .slice none 0 0, .slice none 0 0, .slice none 0 0], .bool false]) (by simp [results, Tryz.results25, go_sem, r0, r1, r2, r3]) rfl ?_
  exact anI_none hbF (ownP2_none _)

set_option maxRecDepth 100000 in
set_option maxHeartbeats 8000000 in
theorem optUnre_yes (hv : annB t0 t1 t2 t3 = true) (ms : List Bool) (hms : MarksOf t2 (fromP (atsP t3)) ms) (hT : TabZ w) :
    Calls Tryz.prog 25 #[.agg #[.slice A0 n0 c0, .slice A1 n1 c1, .slice A2 n2 c2, .slice A3 n3 c3], .func (Fn.func 26) #[] #[]] w fun e w' => AnI w w' e n0 n1 (droN ms n2 (t2, t3)).1.length (droN ms n2 (t2, t3)).2.length t0 t1 (droN ms n2 (t2, t3)).1 (droN ms n2 (t2, t3)).2 true := by
  have hl0 := h0.1
  have hl1 := h1.1
  have hl2 := h2.1
  have hl3 := h3.1
  subst hl0 hl1 hl2 hl3
  have hb0 : Below w.heap.size w ((w.alloc (.cells #[.slice A0 t0.length c0, .slice A1 t1.length c1, .slice A2 t2.length c2, .slice A3 t3.length c3] 32)).alloc (.cells #[.slice none 0 0, .slice none 0 0, .slice none 0 0, .slice none 0 0] 32)) := bon (bnew _ _) (bnew _ _)
  have hP : BlkIs ((w.alloc (.cells #[.slice A0 t0.length c0, .slice A1 t1.length c1, .slice A2 t2.length c2, .slice A3 t3.length c3] 32)).alloc (.cells #[.slice none 0 0, .slice none 0 0, .slice none 0 0, .slice none 0 0] 32)) w.heap.size 32 #[.slice A0 t0.length c0, .slice A1 t1.length c1, .slice A2 t2.length c2, .slice A3 t3.length c3] := (blk_new w _ _ _ rfl).next (bnew _ _)
  have hX : BlkIs ((w.alloc (.cells #[.slice A0 t0.length c0, .slice A1 t1.length c1, .slice A2 t2.length c2, .slice A3 t3.length c3] 32)).alloc (.cells #[.slice none 0 0, .slice none 0 0, .slice none 0 0, .slice none 0 0] 32)) (w.heap.size + 1) 32 #[.slice none 0 0, .slice none 0 0, .slice none 0 0, .slice none 0 0] := blk_new _ _ _ _ (by simp)
  have hs2 : w.heap.size + 2 ≤ (((w.alloc (.cells #[.slice A0 t0.length c0, .slice A1 t1.length c1, .slice A2 t2.length c2, .slice A3 t3.length c3] 32)).alloc (.cells #[.slice none 0 0, .slice none 0 0, .slice none 0 0, .slice none 0 0] 32))).heap.size := by simp
  obtain ⟨s0, s1, s2, s3, s3'⟩ := annB_small hv
  have hbd := annB_bnd hv
  have HI : Hid (DrS ms t2.length (droN ms t2.length (t2, t3)) t2 t3) := ⟨rfl, Nat.le_refl _, by rw [hms.1]; exact Nat.le_refl _, by omega, hbd.1, hbd.2, ⟨by omega, s3'⟩, droN_pts hms⟩
  have HV := Lib.hid hv
  have HMS := Lib.hid hms
  have HT := Lib.hid hT
  have HW := Lib.hid (with_yes A0 t0.length c0 t0 A1 t1.length c1 t1 A2 t2.length c2 t2 A3 t3.length c3 t3 A3 t3.length c3 t3 ((w.alloc (.cells #[.slice A0 t0.length c0, .slice A1 t1.length c1, .slice A2 t2.length c2, .slice A3 t3.length c3] 32)).alloc (.cells #[.slice none 0 0, .slice none 0 0, .slice none 0 0, .slice none 0 0] 32)) ((h0.next hb0 (Nat.le_refl _)).more hb0.size) ((h1.next hb0 (Nat.le_refl _)).more hb0.size) ((h2.next hb0 (Nat.le_refl _)).more hb0.size) ((h3.next hb0 (Nat.le_refl _)).more hb0.size) ((h3.next hb0 (Nat.le_refl _)).more hb0.size) hn0 he0 hn1 he1 hn2 hn3 he3 hn3 he3 hv (annB_parts hv).2.2.2)
  generalize droN ms t2.length (t2, t3) = R at HI ⊢
  clear h0 h1 h2 h3 hv s0 s1 s2 s3 s3' hbd hms hT
  go_enter Tryz.func25, Tryz.ntmps25
  go_wp2_with fail
  generalize ((w.alloc (.cells #[.slice A0 t0.length c0, .slice A1 t1.length c1, .slice A2 t2.length c2, .slice A3 t3.length c3] 32)).alloc (.cells #[.slice none 0 0, .slice none 0 0, .slice none 0 0, .slice none 0 0] 32)) = W at hb0 hP hX hs2 HW ⊢
  have p0 := hP.cell 0
  have p1 := hP.cell 1
  have p2 := hP.cell 2
  have p3 := hP.cell 3
  simp at p0 p1 p2 p3
  refine HW.out.mono ?_
  rintro e w1 ⟨R0, d0, R1, d1, R2, d2, R3, d3, md0, md1, md2, rfl, o0, o1, o2, o3, hmd, hb1⟩
  have hs1 := hb1.size
  have hbA := bnew w1 (.cells #[.slice R0 t0.length d0, .slice R1 t1.length d1, .slice R2 t2.length d2, .slice R3 t3.length d3] 32)
  have hbO := bnew (w1.alloc (.cells #[.slice R0 t0.length d0, .slice R1 t1.length d1, .slice R2 t2.length d2, .slice R3 t3.length d3] 32)) (.cells #[.slice R0 t0.length d0, .slice R1 t1.length d1, .slice R2 t2.length d2, .slice R3 t3.length d3] 95)
  have hOpt : Opt ((w1.alloc (.cells #[.slice R0 t0.length d0, .slice R1 t1.length d1, .slice R2 t2.length d2, .slice R3 t3.length d3] 32)).alloc (.cells #[.slice R0 t0.length d0, .slice R1 t1.length d1, .slice R2 t2.length d2, .slice R3 t3.length d3] 95)) (w1.heap.size + 1) W.heap.size md0 md1 md2 w1.heap.size R0 t0.length d0 R1 t1.length d1 R2 d2 R3 d3 t0 t1 t2 t3 :=
    ⟨blk_new _ _ _ _ (by simp), (o0.next hbA).next hbO, (o1.next hbA).next hbO, (o2.next hbA).next hbO, (o3.next hbA).next hbO, by omega⟩
  have hTO := HT.out.next (bon (bon (bon hb0 hb1) hbA) hbO)
  have HC := Lib.hid (dropUnre_c _ _ _ _ _ _ _ _ _ _ _ _ _ _ _ _ _ _ _ _ R ms _ hOpt HI.out HV.out HMS.out hTO)
  have hXO := ((hX.next hb1).next hbA).next hbO
  have hb0O := bon (bon (bon hb0 hb1) hbA) hbO
  have hsO : w1.heap.size + 2 ≤ ((w1.alloc (.cells #[.slice R0 t0.length d0, .slice R1 t1.length d1, .slice R2 t2.length d2, .slice R3 t3.length d3] 32)).alloc (.cells #[.slice R0 t0.length d0, .slice R1 t1.length d1, .slice R2 t2.length d2, .slice R3 t3.length d3] 95)).heap.size := by simp
  clear o0 o1 o2 o3 hX hP HI HW hOpt
  go_wp2_with fail
  refine HC.out.mono ?_
  rintro e w6 ⟨rfl, hO6, hb6⟩
  have hX1 : BlkIs w6 (w.heap.size + 1) 32 #[.slice none 0 0, .slice none 0 0, .slice none 0 0, .slice none 0 0] := (hb6.block _ (by omega)).trans hXO
  have hs6 := hb6.size
  have f0 := hX1.frozen 0
  have f1 := hX1.frozen 1
  have f2 := hX1.frozen 2
  have f3 := hX1.frozen 3
  have y0 := hX1.cell 0
  have y1 := hX1.cell 1
  have y2 := hX1.cell 2
  have y3 := hX1.cell 3
  simp at y0 y1 y2 y3
  have z0 := hO6.hb.cell 0
  have z1 := hO6.hb.cell 1
  have z2 := hO6.hb.cell 2
  have z3 := hO6.hb.cell 3
  simp at z0 z1 z2 z3
  obtain ⟨hF, hgr⟩ := fill4 hX1 (.slice R0 t0.length d0) (.slice R1 t1.length d1) (.slice R2 R.1.length d2) (.slice R3 R.2.length d3)
  have r0 := hF.cell 0
  have r1 := hF.cell 1
  have r2 := hF.cell 2
  have r3 := hF.cell 3
  simp at r0 r1 r2 r3
  have hoF : Out (w.heap.size + 1) (w.heap.size + 2) w6 _ := Out.of_grown hgr (fun k hk => by have := Option.some.inj hk; omega)
  have hsF := hoF.size
  have hz := hO6.sz
  have Q0 := hO6.o0.out hoF (.inl (by omega))
  have Q1 := hO6.o1.out hoF (.inl (by omega))
  have Q2 := hO6.o2.out hoF (.inl (by omega))
  have Q3 := hO6.o3.out hoF (.inl (by omega))
  have hb06 : Below w.heap.size w w6 := hb0O.trans (hb6.mono (by omega))
  have hbF := hb06.trans (hoF.below (Nat.le_succ _) hb06.size)
  have hQ3 := Q3.wide (hi' := _) (show w1.heap.size ≤ _ from by omega) (Nat.le_refl _)
  clear hF hgr hX1 hXO HC
  go_wp2_with fail
  refine bodyPost_ret (v := .tuple #[.agg #[.slice R0 t0.length d0, .slice R1 t1.length d1, .slice R2 R.1.length d2, .slice R3 R.2.length d3], .bool true]) (by simp [results, Tryz.results25, go_sem, r0, r1, r2, r3]) rfl ?_
  exact ⟨_, _, _, _, _, _, _, _, md0, md1, md2, rfl, Q0.less (by omega), Q1, Q2, hQ3, ⟨by omega, by omega, by omega, by omega⟩, hbF⟩

set_option maxRecDepth 100000 in
set_option maxHeartbeats 4000000 in
theorem implUnre_mid (N0 N1 N2 N3 : Nat) (u0 u1 : List (Int × List Int)) (u2 : List (Int × Int)) (u3 : List P2) (r : Bool)
    (HW0 : ∀ x : World, Below w.heap.size w x → Calls Tryz.prog 25 #[.agg #[.slice A0 n0 c0, .slice A1 n1 c1, .slice A2 n2 c2, .slice A3 n3 c3], .func (Fn.func 26) #[] #[]] x fun e w' => AnI x w' e N0 N1 N2 N3 u0 u1 u2 u3 r) :
    Calls Tryz.prog 8 #[.agg #[.slice A0 n0 c0, .slice A1 n1 c1, .slice A2 n2 c2, .slice A3 n3 c3]] w fun e w' => AnI w w' e N0 N1 N2 N3 u0 u1 u2 u3 r := by
  have hb0 : Below w.heap.size w ((w.alloc (.cells #[.slice A0 n0 c0, .slice A1 n1 c1, .slice A2 n2 c2, .slice A3 n3 c3] 32)).alloc (.cells #[.slice none 0 0, .slice none 0 0, .slice none 0 0, .slice none 0 0] 32)) := bon (bnew _ _) (bnew _ _)
  have hP : BlkIs ((w.alloc (.cells #[.slice A0 n0 c0, .slice A1 n1 c1, .slice A2 n2 c2, .slice A3 n3 c3] 32)).alloc (.cells #[.slice none 0 0, .slice none 0 0, .slice none 0 0, .slice none 0 0] 32)) w.heap.size 32 #[.slice A0 n0 c0, .slice A1 n1 c1, .slice A2 n2 c2, .slice A3 n3 c3] := (blk_new w _ _ _ rfl).next (bnew _ _)
  have hX : BlkIs ((w.alloc (.cells #[.slice A0 n0 c0, .slice A1 n1 c1, .slice A2 n2 c2, .slice A3 n3 c3] 32)).alloc (.cells #[.slice none 0 0, .slice none 0 0, .slice none 0 0, .slice none 0 0] 32)) (w.heap.size + 1) 32 #[.slice none 0 0, .slice none 0 0, .slice none 0 0, .slice none 0 0] := blk_new _ _ _ _ (by simp)
  have hs2 : w.heap.size + 2 ≤ (((w.alloc (.cells #[.slice A0 n0 c0, .slice A1 n1 c1, .slice A2 n2 c2, .slice A3 n3 c3] 32)).alloc (.cells #[.slice none 0 0, .slice none 0 0, .slice none 0 0, .slice none 0 0] 32))).heap.size := by simp
  have HW := Lib.hid (HW0 _ hb0)
  clear h0 h1 h2 h3 HW0
  go_enter Tryz.func8, Tryz.ntmps8
  go_wp2_with fail
  generalize ((w.alloc (.cells #[.slice A0 n0 c0, .slice A1 n1 c1, .slice A2 n2 c2, .slice A3 n3 c3] 32)).alloc (.cells #[.slice none 0 0, .slice none 0 0, .slice none 0 0, .slice none 0 0] 32)) = W at hb0 hP hX hs2 HW ⊢
  have p0 := hP.cell 0
  have p1 := hP.cell 1
  have p2 := hP.cell 2
  have p3 := hP.cell 3
  simp at p0 p1 p2 p3
  refine HW.out.mono ?_
  rintro e w1 ⟨R0, d0, R1, d1, R2, d2, R3, d3, md0, md1, md2, rfl, o0, o1, o2, o3, hmd, hb1⟩
  have hs1 := hb1.size
  have hX1 := hX.next hb1
  have hb01 := bon hb0 hb1
  have f0 := hX1.frozen 0
  have f1 := hX1.frozen 1
  have f2 := hX1.frozen 2
  have f3 := hX1.frozen 3
  have y0 := hX1.cell 0
  have y1 := hX1.cell 1
  have y2 := hX1.cell 2
  have y3 := hX1.cell 3
  simp at y0 y1 y2 y3
  obtain ⟨hF, hgr⟩ := fill4 hX1 (.slice R0 N0 d0) (.slice R1 N1 d1) (.slice R2 N2 d2) (.slice R3 N3 d3)
  have r0 := hF.cell 0
  have r1 := hF.cell 1
  have r2 := hF.cell 2
  have r3 := hF.cell 3
  simp at r0 r1 r2 r3
  have hoF : Out (w.heap.size + 1) (w.heap.size + 2) w1 _ := Out.of_grown hgr (fun k hk => by have := Option.some.inj hk; omega)
  have hsF := hoF.size
  have Q0 := o0.out hoF (.inl (by omega))
  have Q1 := o1.out hoF (.inl (by omega))
  have Q2 := o2.out hoF (.inl (by omega))
  have Q3 := o3.out hoF (.inl (by omega))
  have hbF := hb01.trans (hoF.below (Nat.le_succ _) hb01.size)
  have hQ3 := Q3.wide (hi' := _) (show w1.heap.size ≤ _ from hsF) (Nat.le_refl _)
  clear hF hgr hX1 hX hP HW
  go_wp2_with fail
  refine bodyPost_ret (v := .tuple #[.agg #[.slice R0 N0 d0, .slice R1 N1 d1, .slice R2 N2 d2, .slice R3 N3 d3], .bool r]) (by simp [results, Tryz.results8, go_sem, r0, r1, r2, r3]) rfl ?_
  exact ⟨_, _, _, _, _, _, _, _, md0, md1, md2, rfl, Q0.less (by omega), Q1, Q2, hQ3, ⟨by omega, by omega, by omega, by omega⟩, hbF⟩
end
end Go.Proofs.YtdmcpabpjhinhaaGreatDoor
