/-
  The text of a term, in the model and in the program. Conditions: at most 2^20 coefficients; the table of the powers of ten lies as the library's text lays it.
-/
import Derived.Test.YtahlpjhhbcjfpaaDoorTrmI
import Derived.Test.YtahlpjhhbcjfpaaDoorInsT
import Derived.Shelf.Strings.Prefix
namespace Go.Proofs
open Go.Shelf
shelf_lay Lays.n101 Nm 101 at Tryd as Tryd.lays101
end Go.Proofs
namespace Go.Proofs.YtahlpjhhbcjfpaaDoor
set_option linter.unusedVariables false
set_option linter.unusedSimpArgs false
open Go.RowKit

theorem infoStrT : (Tryd.prog.info? 9).map (fun i => (i.zero, i.size, i.bytes)) = some (some (.string ByteArray.empty), 1, 16) := by kernel_rfl

set_option maxRecDepth 100000 in
set_option maxHeartbeats 4000000 in
/-- The texts of summands, in a row of the call's own. -/
theorem eachStr_c (A : Option Addr) (c lo : Nat) (ps : List (Int × Int)) (w : World) (hT : Tab10 w) (h : PRow w lo A ps) (hn : ps.length ≤ 100) (hp : ∀ p ∈ ps, -1 ≤ p.1 ∧ p.1 ≤ 9 ∧ -1000000 ≤ p.2 ∧ p.2 ≤ 1000000) :
    Calls Tryd.prog 66 #[.slice A ps.length c, .func (Fn.func 68) #[] #[]] w fun e w' => ∃ g, e = .returned (.slice (some ⟨g, 0, none⟩) ps.length ps.length) ∧ w'.ownsRow w.heap.size 9 1 (.slice (some ⟨g, 0, none⟩) ps.length ps.length) ps.length (ps.map fun p => Value.string (strL (partL p))) ∧ Below w.heap.size w w' := by
  obtain ⟨i0, hi, hz0, hz1, hz2⟩ := info_parts infoStrT
  obtain ⟨n, hnl⟩ : ∃ n, ps.length = n := ⟨_, rfl⟩
  rw [hnl] at hn ⊢
  have HL := Lib.hid hnl
  have HP := Lib.hid hp
  have HTT := Lib.hid hT
  clear hnl hp hT
  go_enter Tryd.func66, Tryd.ntmps66
  go_wp2_with (at_make; refine wpList_make_full _ rfl _ _ 112 rfl w.heap.size 9 i0 (.string ByteArray.empty) 1 Tryd.underlying112 hi hz0 hz1 .i64 .i64 _ _ n rfl rfl rfl rfl (by rw [hz2]; omega) (by unfold maxLen; omega) (Nat.le_refl _) ?_; intro w1 hown hgrow)
  rw [copy_start n (ps.map fun p => Value.string (strL (partL p)))] at hown
  have hb1 := (Below.refl w.heap.size w).grown hgrow (Nat.le_refl _) (fun _ h => by cases h)
  clear hgrow
  go_loopw [6, 7, 13] (fun _ _ i wr => ∃ k : Nat, k ≤ n ∧ i = .int .i64 k ∧ wr.ownsRow w.heap.size 9 1 (.slice (some ⟨w.heap.size, 0, none⟩) n n) n ((ps.map fun p => Value.string (strL (partL p))).take k ++ List.replicate (n - k) (.string ByteArray.empty)) ∧ Below w.heap.size w wr) (fun _ _ i _ => n - (intOf i).toNat)
  case atStart => exact ⟨0, Nat.zero_le _, rfl, hown, hb1⟩
  case round =>
    clear hown hb1
    obtain ⟨k, hk, rfl, hown, hbel⟩ := hrel
    by_cases hlt : k < n
    · obtain ⟨p, hx⟩ : ∃ p, ps[k]? = some p := ⟨_, List.getElem?_eq_getElem (by have := HL.out; omega)⟩
      obtain ⟨b, rfl, hlo, hb, c0, c1⟩ := h k p hx
      have d0 := cell_next c0 hbel
      have d1 := cell_next c1 hbel
      have hpp := HP.out p (List.mem_of_getElem? hx)
      have hbN := bnew wr (.cells #[.int .i64 p.1, .int .i64 p.2] 115)
      have hTN := (HTT.out.next hbel).next hbN
      have HC := Lib.hid (partStr_c p.1 p.2 _ hTN ⟨hpp.1, hpp.2.1⟩ hpp.2.2)
      have hst0 := Lib.hid (copy_step (n := n) (k := k) (xs := ps.map fun p => Value.string (strL (partL p))) (z := .string ByteArray.empty) (x := .string (strL (partL p))) (by simpa using HL.out) hlt (by simp [hx]))
      have hul : k < ((ps.map fun p => Value.string (strL (partL p))).take k ++ List.replicate (n - k) (Value.string ByteArray.empty)).length := by have := HL.out; simp; omega
      have hsz := hbel.size
      generalize (ps.map fun p => Value.string (strL (partL p))).take k ++ List.replicate (n - k) (Value.string ByteArray.empty) = ys at hown hul hst0
      clear hx hTN hpp c0 c1
      go_wp2_with fail
      refine HC.out.mono ?_
      rintro e w2 ⟨rfl, hb2⟩
      have hb12 := bon hbN hb2
      have hown1 := own_below hown hb12
      have hfz := hown1.frozenAt k
      have hcl := hown1.cellAt k (by omega)
      rw [List.getElem?_eq_getElem hul] at hcl
      have hst := Lib.hid (hown1.stored k (.string (strL (partL p))))
      clear hown1 hown
      go_wp2_with fail
      go_roundw
      case rel => exact ⟨k + 1, by omega, by go_num, by rw [hst0.out] at hst; exact hst.out.1, (hbel.trans (hb12.mono hsz)).setCell (p := ⟨w.heap.size, k, none⟩) (Nat.le_refl _) _⟩
      case measure => simp [intOf]; omega
    · have e : k = n := by omega
      subst e
      have HO := Lib.hid hown
      clear hown
      go_wp2_with fail
      go_ret
      exact ⟨_, rfl, by have := HO.out; rw [copy_end (by simpa using HL.out)] at this; exact this, hbel⟩

set_option maxRecDepth 100000 in
set_option maxHeartbeats 4000000 in
theorem specTermText_c (c0 : Int) (A : Option Addr) (n c : Nat) (zs : List Int) (w : World) (h : InL w w.heap.size A n zs) (hn : n ≤ 1048576) :
    Calls Tryd.prog 22 #[.agg #[.int .i64 c0, .slice A n c]] w fun e w' => e = .returned (.tuple #[.string (ttR (c0, zs)).1, .bool (ttR (c0, zs)).2]) ∧ Below w.heap.size w w' := by
  have hb0 := bnew w (.cells #[.int .i64 c0, .slice A n c] 45)
  have p0 : (w.alloc (.cells #[.int .i64 c0, .slice A n c] 45)).cell? ⟨w.heap.size, 0, none⟩ = some (.int .i64 c0) := by simp
  have p1 : (w.alloc (.cells #[.int .i64 c0, .slice A n c] 45)).cell? ⟨w.heap.size, 0 + 1, none⟩ = some (.slice A n c) := by simp
  have HI0 := l02Is_c w.heap.size 0 c0 A n c w.heap.size zs _ p0 p1 (h.next hb0 (Nat.le_refl _)).2 h.1 hn
  cases hv : tmB (c0, zs) with
  | false =>
    rw [ttR_no hv]
    rw [hv] at HI0
    have HI := Lib.hid HI0
    clear HI0 hv h
    go_enter Tryd.func22, Tryd.ntmps22
    go_wp2_with fail
    refine HI.out.mono ?_
    rintro e w1 ⟨rfl, rfl⟩
    go_wp2_with fail
    go_ret2
    exact ⟨rfl, hb0⟩
  | true =>
    rw [ttR_yes hv]
    rw [hv] at HI0
    have HI := Lib.hid HI0
    have h10 : n ≤ 10 := by have h1 := (tmB_parts hv).1; have h2 := h.1; exact h2 ▸ h1
    have HT := Lib.hid (l02Text_c w.heap.size 0 c0 A n c w.heap.size zs _ p0 p1 (h.next hb0 (Nat.le_refl _)) hb0.size hv h10)
    clear HI0 hv h
    go_enter Tryd.func22, Tryd.ntmps22
    go_wp2_with fail
    refine HI.out.mono ?_
    rintro e w1 ⟨rfl, rfl⟩
    go_wp2_with fail
    refine HT.out.mono ?_
    rintro e w2 ⟨rfl, hb2⟩
    go_wp2_with fail
    go_ret2
    exact ⟨rfl, bon hb0 hb2⟩

theorem trimP_is (l : List UInt8) : Lib.trimPrefix l [43] = trimL l := by
  cases l with
  | nil => rfl
  | cons x l =>
    unfold Lib.trimPrefix trimL
    by_cases h : x = 43
    · subst h; simp [Lib.hasPrefix]
    · have h2 : ¬ (43 : UInt8) = x := fun e => h e.symm
      simp [Lib.hasPrefix, h, h2]
theorem join_sum (ps : List (Int × Int)) : Lib.join ((ps.map fun p => strL (partL p)).map (·.data.toList)) (⟨#[]⟩ : ByteArray).data.toList = sumL ps := by
  have e : (ps.map fun p => strL (partL p)).map (·.data.toList) = ps.map partL := by
    rw [List.map_map]
    refine List.map_congr_left fun p _ => ?_
    exact strL_toList _
  rw [e]
  unfold sumL
  show Lib.join (ps.map partL) [] = _
  cases ps with
  | nil => rfl
  | cons p ps =>
    rw [List.map_cons, Lib.join_cons]
    simp [Lib.joinTail, List.flatMap, List.map_map, Function.comp_def]

set_option maxRecDepth 100000 in
set_option maxHeartbeats 4000000 in
theorem implTermText_c (c0 : Int) (A : Option Addr) (n c : Nat) (zs : List Int) (w : World) (hT : Tab10 w) (h : InL w w.heap.size A n zs) (hn : n ≤ 1048576) :
    Calls Tryd.prog 24 #[.agg #[.int .i64 c0, .slice A n c]] w fun e w' => e = .returned (.tuple #[.string (ttR (c0, zs)).1, .bool (ttR (c0, zs)).2]) ∧ Below w.heap.size w w' := by
  have hb0 := bnew w (.cells #[.int .i64 c0, .slice A n c] 45)
  have hP : BlkIs (w.alloc (.cells #[.int .i64 c0, .slice A n c] 45)) w.heap.size 45 #[.int .i64 c0, .slice A n c] := blk_new _ _ _ _ rfl
  have HI0 := implValid_c c0 A n c w.heap.size zs (w.alloc (.cells #[.int .i64 c0, .slice A n c] 45)) (h.next hb0 (Nat.le_refl _)).2 hb0.size h.1 hn
  cases hv : tmB (c0, zs) with
  | false =>
    rw [ttR_no hv]
    rw [hv] at HI0
    have HI := Lib.hid HI0
    clear HI0 hv h
    go_enter Tryd.func24, Tryd.ntmps24
    go_wp2_with fail
    generalize w.alloc (.cells #[.int .i64 c0, .slice A n c] 45) = W at hb0 HI hP ⊢
    refine HI.out.mono ?_
    rintro e w1 ⟨rfl, hb1⟩
    go_wp2_with fail
    go_ret2
    exact ⟨rfl, bon hb0 hb1⟩
  | true =>
    rw [ttR_yes hv]
    rw [hv] at HI0
    have HI := Lib.hid HI0
    have h10 : n ≤ 10 := by have h1 := (tmB_parts hv).1; have h2 := h.1; exact h2 ▸ h1
    have HV := Lib.hid hv
    have HIN := Lib.hid h
    have hT0 := hT.next hb0
    have HSS := Lib.hid (fun (W : World) (hb : Below w.heap.size w W) => summandsOf_c c0 A n c w.heap.size zs W (HIN.out.next hb (Nat.le_refl _)) hb.size h10)
    have hsl := summ_len (c0, zs)
    have hzl : ((c0, zs) : Int × List Int).2.length = n := h.1
    rw [hzl] at hsl
    clear HI0 hv h hzl hT
    go_enter Tryd.func24, Tryd.ntmps24
    go_wp2_with fail
    generalize w.alloc (.cells #[.int .i64 c0, .slice A n c] 45) = W at hb0 HI hP hT0 ⊢
    refine HI.out.mono ?_
    rintro e w1 ⟨rfl, hb1⟩
    have hP1 := hP.next hb1
    have q0 := hP1.cell 0
    have q1 := hP1.cell 1
    simp at q0 q1
    have hb01 := bon hb0 hb1
    go_wp2_with fail
    refine (HSS.out w1 hb01).mono ?_
    rintro e w2 ⟨v, rfl, hown, hb2⟩
    obtain ⟨A2, c2, rfl, hrow⟩ := prow_of_own hown
    have hT2 := (hT0.next hb1).next hb2
    have hb02 := bon hb01 hb2
    have HE := Lib.hid (eachStr_c A2 c2 w1.heap.size (summ (c0, zs)) w2 hT2 hrow (by omega) (fun p hp => summ_ok HV.out hp))
    clear hown hrow q0 q1 hP hP1
    by_cases hne : summ (c0, zs) = []
    · have hl0 : (summ (c0, zs)).length = 0 := by rw [hne]; rfl
      have HR : Hid (termL (c0, zs) = [48]) := by show _ = _; unfold termL; rw [if_pos hne]
      rw [hl0] at HE ⊢
      clear hne hl0 hsl
      go_wp2_with fail
      refine HE.out.mono ?_
      rintro e w3 ⟨g, rfl, ho, hb3⟩
      clear ho
      go_wp2_with fail
      go_ret2
      exact ⟨by rw [HR.out]; rfl, bon hb02 hb3⟩
    · have hpos : 0 < (summ (c0, zs)).length := List.length_pos_iff.2 hne
      have HR : Hid (termL (c0, zs) = trimL (sumL (summ (c0, zs)))) := by show _ = _; unfold termL; rw [if_neg hne]
      have hpl : ¬ ((summ (c0, zs)).length : Int) = 0 := by omega
      have hsh := sumL_short (summ (c0, zs)) (fun p hp => ⟨(summ_ok HV.out hp).2.2.1, (summ_ok HV.out hp).2.2.2⟩)
      have HJ : Hid (∀ (W : World) (g : Nat), W.ownsRow w2.heap.size 9 1 (.slice (some ⟨g, 0, none⟩) (summ (c0, zs)).length (summ (c0, zs)).length) (summ (c0, zs)).length ((summ (c0, zs)).map fun p => Value.string (strL (partL p))) →
          Calls Tryd.prog 70 #[.slice (some ⟨g, 0, none⟩) (summ (c0, zs)).length (summ (c0, zs)).length, .string ⟨#[]⟩] W fun e w' => e = .returned (.string (strL (sumL (summ (c0, zs))))) ∧ Below W.heap.size W w') := by
        intro W g ho
        have hj := Any.strings_Join Tryd.lays156 Tryd.extra156 g 0 (summ (c0, zs)).length ((summ (c0, zs)).map fun p => strL (partL p)) ⟨#[]⟩ W (fun j x hj => by
          have hjl := (List.getElem?_eq_some_iff.1 hj).1
          have hjl2 : j < (summ (c0, zs)).length := by simpa using hjl
          have := ho.cellAt j (by omega)
          rw [Nat.zero_add]
          refine this.trans ?_
          rw [List.getElem?_map] at hj ⊢
          cases hp : (summ (c0, zs))[j]? with
          | none => rw [hp] at hj; simp at hj
          | some p => rw [hp] at hj; simp at hj; simp [hj]) (ho.lt g rfl).2 (by rw [List.length_map]; omega) (by rw [List.length_map]; exact Nat.le_refl _) (by rw [join_sum]; omega)
        rw [List.length_map, join_sum] at hj
        exact hj
      have HTP : Hid (∀ W : World, Calls Tryd.prog 69 #[.string (strL (sumL (summ (c0, zs)))), .string ⟨#[43]⟩] W fun e w' => e = .returned (.string (strL (termL (c0, zs)))) ∧ w' = W) := by
        intro W
        have ht := Any.strings_TrimPrefix Tryd.lays101 (strL (sumL (summ (c0, zs)))) ⟨#[43]⟩ W
        rw [strL_toList] at ht
        have e2 : Lib.trimPrefix (sumL (summ (c0, zs))) (⟨#[43]⟩ : ByteArray).data.toList = termL (c0, zs) := by rw [HR.out]; exact trimP_is _
        rw [e2] at ht
        exact ht
      clear HR hsh hne hsl
      generalize (summ (c0, zs)).length = m at HE HJ hpos hpl ⊢
      go_wp2_with fail
      refine HE.out.mono ?_
      rintro e w3 ⟨g, rfl, ho, hb3⟩
      have HJ3 := Lib.hid (HJ.out w3 g ho)
      clear ho HJ HE
      go_wp2_with fail
      refine HJ3.out.mono ?_
      rintro e w4 ⟨rfl, hb4⟩
      go_wp2_with fail
      refine (HTP.out w4).mono ?_
      rintro e w5 ⟨rfl, rfl⟩
      go_wp2_with fail
      go_ret2
      exact ⟨rfl, bon (bon hb02 hb3) hb4⟩
end Go.Proofs.YtahlpjhhbcjfpaaDoor
