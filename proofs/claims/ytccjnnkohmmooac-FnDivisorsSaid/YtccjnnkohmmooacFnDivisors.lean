/-
  For all bytes, of the list drawn from them: its greatest common divisor divides all its numbers, and each quotient that is rounded down is the greatest one that is not too great.
  Conditions: none but those that the statement itself bears.
-/
import Derived.Test.YtccjnnkohmmooacRows
import Derived.WalkKit
import Derived.ProofKit
import Derived.OpenShut
import Derived.ShutString
import Derived.ChangeOld
import Derived.Below
import Derived.Test.YtccjnnkohmmooacBase
import Derived.Test.YtccjnnkohmmooacGcd
import Derived.Test.YtccjnnkohmmooacDraw
namespace Go.Proofs.Ytccjnnkohmmooac.fnDivisors
open Go.ChangeShapes Go.WideShapes Go.ChangeAt Go.RowKit
open Go.ChangeMaps (open_string shut_string)
set_option linter.unusedVariables false

theorem own : ownKnob Try.prog.godebug = none := by kernel_rfl
theorem laidOut : laidOutB Try.prog = true := by kernel_rfl

/-- WHAT THE WALK IS TOLD OF A SLICE OF INTEGERS THAT CAME IN: it is nil; or it leads to a row of 'cap' cells, the numbers 'zs' (the first 'len' are its elements, the rest its spare room), each fitting its kind. -/
def IsRow (k : IntKind) (w : World) (a : Option Addr) (len cap : Nat) (zs : List Int) : Prop :=
  (a = none ∧ len = 0 ∧ cap = 0 ∧ zs = []) ∨
  ∃ x, a = some x ∧ len ≤ cap ∧ cap ≤ maxLen ∧ zs.length = cap ∧ (∀ i, i < zs.length → w.cell? (x.add i) = some (.int k (zs.getD i 0))) ∧ ∀ n ∈ zs, (Lit.int k n).wf = true

theorem IsRow.row {k : IntKind} {w : World} {a : Option Addr} {len cap : Nat} {zs : List Int} (h : IsRow k w a len cap zs) :
    Row w w.heap.size a ((zs.take len).map (Value.int k)) ∧ (zs.take len).length = len ∧ ∀ n ∈ zs.take len, (Lit.int k n).wf = true := by
  rcases h with ⟨rfl, rfl, rfl, rfl⟩ | ⟨x, rfl, hl, _, hz, hcell, hwz⟩
  · exact ⟨Row.nil, rfl, fun n hn => by simp at hn⟩
  · have hlen : (zs.take len).length = len := by rw [List.length_take]; omega
    refine ⟨fun j hj => ?_, hlen, fun n hn => hwz n (List.mem_of_mem_take hn)⟩
    rw [List.length_map, hlen] at hj
    have hc := hcell j (by omega)
    obtain ⟨b, off, spot⟩ := x
    have hspot : spot = none := by simpa [Addr.add] using World.cell?_spot (hcell 0 (by omega))
    subst hspot
    have ha : (⟨b, off, none⟩ : Addr).add j = ⟨b, off + j, none⟩ := by unfold Addr.add; split <;> simp_all
    rw [ha] at hc
    refine ⟨b, off, rfl, cell_lt hc, ?_⟩
    rw [hc, List.getElem?_map, List.getElem?_take, if_pos (by omega), List.getElem?_eq_getElem (by omega)]
    simp [List.getD, List.getElem?_eq_getElem (show j < zs.length by omega)]
def anyB (zs : List Int) : Bool := zs.any fun z => z != 0
theorem anyB_succ {zs : List Int} {k : Nat} {x : Int} (hx : zs[k]? = some x) : anyB (zs.take (k + 1)) = (anyB (zs.take k) || x != 0) := by
  simp [anyB, List.take_add_one, hx]
theorem fold_gcd_dvd : ∀ (zs : List Int) (a : Nat), (zs.foldl (fun g z => Nat.gcd g z.natAbs) a ∣ a) ∧ ∀ z ∈ zs, zs.foldl (fun g z => Nat.gcd g z.natAbs) a ∣ z.natAbs
  | [], a => ⟨Nat.dvd_refl _, fun _ h => by simp at h⟩
  | y :: zs, a => by
    obtain ⟨h1, h2⟩ := fold_gcd_dvd zs (Nat.gcd a y.natAbs)
    refine ⟨Nat.dvd_trans h1 (Nat.gcd_dvd_left _ _), fun z hz => ?_⟩
    rcases List.mem_cons.1 hz with rfl | hz
    · exact Nat.dvd_trans h1 (Nat.gcd_dvd_right _ _)
    · exact h2 z hz
theorem gcdL_dvd {zs : List Int} {z : Int} (h : z ∈ zs) : gcdL zs ∣ z.natAbs := (fold_gcd_dvd zs 0).2 z h
theorem gcdL_pos {zs : List Int} : (0 < gcdL zs) ↔ anyB zs = true := by
  constructor
  · intro h
    cases ha : anyB zs with
    | true => rfl
    | false =>
      have h0 : ∀ z ∈ zs, z = 0 := by
        intro z hz
        simp only [anyB, List.any_eq_false] at ha
        simpa using ha z hz
      have : ∀ (l : List Int), (∀ z ∈ l, z = 0) → l.foldl (fun g z => Nat.gcd g z.natAbs) 0 = 0 := by
        intro l
        induction l with
        | nil => intro _; rfl
        | cons y l ih =>
          intro hl
          rw [List.foldl_cons, hl y (List.mem_cons_self ..)]
          exact ih fun z hz => hl z (List.mem_cons_of_mem _ hz)
      have := this zs h0
      unfold gcdL at h
      omega
  · intro h
    simp only [anyB, List.any_eq_true] at h
    obtain ⟨z, hz, hne⟩ := h
    have := gcdL_dvd hz
    rcases Nat.eq_zero_or_pos (gcdL zs) with h0 | h0
    · rw [h0] at this
      have := Nat.eq_zero_of_zero_dvd this
      have hz0 : z = 0 := by omega
      simp [hz0] at hne
    · exact h0
theorem tmod_zero {z : Int} {d : Nat} (h : d ∣ z.natAbs) : z.tmod (d : Int) = 0 := by
  have : (d : Int) ∣ z := Int.ofNat_dvd_left.2 h
  exact Int.tmod_eq_zero_of_dvd this
theorem fold_scale (d : Nat) (hd : 0 < d) : ∀ (zs : List Int) (a : Nat), (∀ z ∈ zs, d ∣ z.natAbs) →
    d * (zs.map fun z => z.tdiv (d : Int)).foldl (fun g z => Nat.gcd g z.natAbs) a = zs.foldl (fun g z => Nat.gcd g z.natAbs) (d * a)
  | [], a, _ => rfl
  | y :: zs, a, h => by
    rw [List.map_cons, List.foldl_cons, List.foldl_cons, fold_scale d hd zs _ fun z hz => h z (List.mem_cons_of_mem _ hz)]
    congr 1
    rw [← Nat.gcd_mul_left]
    congr 1
    rw [Int.natAbs_tdiv, Int.natAbs_natCast]
    exact Nat.mul_div_cancel' (h y (List.mem_cons_self ..))
theorem gcdL_less {zs : List Int} (h : 0 < gcdL zs) : gcdL (zs.map fun z => z.tdiv (gcdL zs : Int)) = 1 := by
  have h1 := fold_scale (gcdL zs) h zs 0 fun z hz => gcdL_dvd hz
  rw [Nat.mul_zero] at h1
  have h2 : gcdL zs * gcdL (zs.map fun z => z.tdiv (gcdL zs : Int)) = gcdL zs * 1 := by rw [Nat.mul_one]; exact h1
  exact Nat.eq_of_mul_eq_mul_left h h2
theorem inC_tdiv {z : Int} {d : Nat} (h : InC z) : InC (z.tdiv (d : Int)) := by
  have h1 : (z.tdiv (d : Int)).natAbs ≤ z.natAbs := by rw [Int.natAbs_tdiv]; exact Nat.div_le_self _ _
  obtain ⟨a, b⟩ := h
  exact ⟨by omega, by omega⟩
theorem coded_of {zs : List Int} (h : ∀ z ∈ zs, InC z) (hl : zs.length ≤ 100) : codedB zs = true := by
  unfold codedB
  rw [decide_eq_true h, decide_eq_true hl]; rfl
theorem gcdL_bound {zs : List Int} (h : ∀ z ∈ zs, InC z) : (gcdL zs : Int) ≤ 1000000000000000 := by
  rcases Nat.eq_zero_or_pos (gcdL zs) with h0 | h0
  · omega
  · have ha := gcdL_pos.1 h0
    simp only [anyB, List.any_eq_true] at ha
    obtain ⟨z, hz, hne⟩ := ha
    have hd := gcdL_dvd hz
    have hz0 : z ≠ 0 := by simpa using hne
    have := Nat.le_of_dvd (by omega) hd
    obtain ⟨a, b⟩ := h z hz
    omega
/-- A quotient that is rounded down. -/
theorem floor_facts (x y : Int) (hx : InC x) (hy : 1 ≤ y) : (x / y) * y ≤ x ∧ x - (x / y) * y < y ∧ -1000000000000000 ≤ x / y ∧ x / y ≤ 1000000000000000 := by
  have h1 := Int.emod_add_mul_ediv x y
  have h2 := Int.emod_lt_of_pos x (by omega : 0 < y)
  have h3 := Int.emod_nonneg x (by omega : y ≠ 0)
  rw [Int.mul_comm] at h1
  obtain ⟨a, b⟩ := hx
  refine ⟨by omega, by omega, ?_, ?_⟩
  · exact Int.le_ediv_of_mul_le (by omega) (by have : -1000000000000000 * y ≤ -1000000000000000 * 1 := by omega
                                               omega)
  · rcases Int.lt_or_le x 0 with hn | hn
    · have := Int.ediv_neg_of_neg_of_pos hn (by omega : 0 < y)
      omega
    · exact Int.le_trans (Int.ediv_le_self _ hn) b
theorem tdiv_floor (x y : Int) (hy : 1 ≤ y) : (if x.tmod y < 0 then x.tdiv y - 1 else x.tdiv y) = x / y := by
  have h1 := Int.tmod_add_mul_tdiv x y
  have h2 := Int.tmod_lt_of_pos x (by omega : 0 < y)
  have h3 : -y < x.tmod y := by
    have := Int.lt_tmod_of_pos x (by omega : 0 < y)
    exact this
  have e1 := Int.emod_add_mul_ediv x y
  have e2 := Int.emod_lt_of_pos x (by omega : 0 < y)
  have e3 := Int.emod_nonneg x (by omega : y ≠ 0)
  generalize x.tdiv y = p at *
  generalize x.tmod y = r at *
  generalize x / y = q at *
  generalize x % y = t at *
  split
  · have hlt : y * (p - 1 - q) < y * 1 := by rw [Int.mul_sub, Int.mul_sub]; omega
    have hgt : y * (-1) < y * (p - 1 - q) := by rw [Int.mul_sub, Int.mul_sub]; omega
    have a := Int.lt_of_mul_lt_mul_left hlt (by omega)
    have b := Int.lt_of_mul_lt_mul_left hgt (by omega)
    omega
  · have hlt : y * (p - q) < y * 1 := by rw [Int.mul_sub]; omega
    have hgt : y * (-1) < y * (p - q) := by rw [Int.mul_sub]; omega
    have a := Int.lt_of_mul_lt_mul_left hlt (by omega)
    have b := Int.lt_of_mul_lt_mul_left hgt (by omega)
    omega
set_option maxHeartbeats 400000 in
theorem divFloor_c (a b : Int) (w : World) (ha : InC a) (hb1 : 1 ≤ b) (hb2 : b ≤ 20) :
    Calls Try.prog 15 #[.int .i64 a, .int .i64 b] w fun e w' => e = .returned (.tuple #[.int .i64 (a / b), .bool true]) ∧ w = w' := by
  have HF := Lib.hid (tdiv_floor a b hb1)
  obtain ⟨h1, h2⟩ := ha
  have hq1 : -1000000000000000 ≤ a.tdiv b ∧ a.tdiv b ≤ 1000000000000000 := by
    have h : (a.tdiv b).natAbs ≤ a.natAbs := by rw [Int.natAbs_tdiv]; exact Nat.div_le_self _ _
    omega
  obtain ⟨hq1, hq2⟩ := hq1
  have hb3 : b ≤ 1000000000000000 := by omega
  by_cases h : a.tmod b < 0
  all_goals
    go_enter Try.func15, Try.ntmps15
    go_wp2
    go_ret2
    exact ⟨ret_int_bool (by rw [← HF.out]; split <;> first | rfl | omega), rfl⟩
set_option maxHeartbeats 400000 in
theorem r8At_c (A : Option Addr) (n c B : Nat) (bs : List Nat) (k : Int) (w : World) (hrow : Row w B A (bs.map bc)) (hz : bs.length = n) (hb : ∀ z ∈ bs, z < 256) (hk : 0 ≤ k) :
    Calls Try.prog 14 #[.slice A n c, .int .i64 k, .int .i64 20] w fun e w' => ∃ x : Int, e = .returned (.int .i64 x) ∧ 0 ≤ x ∧ x < 20 ∧ w = w' := by
  obtain ⟨j, rfl⟩ := Int.eq_ofNat_of_zero_le hk
  by_cases hlt : j < n
  · obtain ⟨b, off, hA, hbb, hc⟩ := hrow j (by simp; omega)
    subst hA
    have hz2 := hb (bs[j]'(by omega)) (List.getElem_mem ..)
    rw [List.getElem?_map, List.getElem?_eq_getElem (by omega)] at hc
    simp only [Option.map, bc] at hc
    generalize bs[j] = z at hc hz2
    clear hb
    have hz0 : (0 : Int) ≤ z := by omega
    have hm1 := Int.emod_lt_of_pos (z : Int) (by omega : (0 : Int) < 20)
    have hm2 := Int.emod_nonneg (z : Int) (by omega : (20 : Int) ≠ 0)
    go_enter Try.func14, Try.ntmps14
    go_wp2
    go_ret
    exact ⟨_, rfl, hm2, hm1, rfl⟩
  · go_enter Try.func14, Try.ntmps14
    go_wp2
    go_ret
    exact ⟨0, rfl, by omega, by omega, rfl⟩
theorem less_ext {zs : List Int} {k d : Nat} {x : Int} (hx : zs[k]? = some x) :
    (zs.take (k + 1)).map (fun z => z.tdiv (d : Int)) = (zs.take k).map (fun z => z.tdiv (d : Int)) ++ [x.tdiv (d : Int)] := by
  simp [List.take_add_one, hx]
set_option maxRecDepth 100000 in
set_option maxHeartbeats 4000000 in
theorem walk (a0 : Option Addr) (len0 cap0 : Nat) (z0 : List Int) (a1 : Option Addr) (len1 cap1 : Nat) (z1 : List Int) (w : World) (w0 : IsRow .u8 w a0 len0 cap0 z0) (w1 : IsRow .u8 w a1 len1 cap1 z1) :
    Calls Try.prog 5 #[.slice a0 len0 cap0, .slice a1 len1 cap1] w fun e w' => e = .returned (.bool true) ∧ Below w.heap.size w w' := by
  obtain ⟨hrow0, hlen0, hwf0⟩ := w0.row
  obtain ⟨hrow1, hlen1, hwf1⟩ := w1.row
  obtain ⟨bs0, hbs0, hb0⟩ := bytes_of hwf0
  obtain ⟨bs1, hbs1, hb1⟩ := bytes_of hwf1
  rw [hbs0] at hrow0 hlen0
  rw [hbs1] at hrow1 hlen1
  rw [List.map_map] at hrow0 hrow1
  rw [List.length_map] at hlen0 hlen1
  change Row w w.heap.size a0 (bs0.map bc) at hrow0
  change Row w w.heap.size a1 (bs1.map bc) at hrow1
  clear hbs0 hbs1 w0 w1 hwf0 hwf1
  by_cases hl0 : (48 : Int) < len0
  · go_enter Try.func5, Try.ntmps5
    go_wp2
    go_ret
    exact ⟨rfl, Below.refl _ _⟩
  by_cases hl1 : (48 : Int) < len1
  · go_enter Try.func5, Try.ntmps5
    go_wp2
    go_ret
    exact ⟨rfl, Below.refl _ _⟩
  have HL := Lib.hid (R8List_c a0 len0 cap0 bs0 w hrow0 hlen0 hb0 (by omega))
  clear hrow0
  go_enter Try.func5, Try.ntmps5
  go_wp2_with (first | (go_at_call 12; go_in))
  refine HL.out.mono ?_
  rintro e w2 ⟨v, zs, rfl, hzl, hin, hown, hbel⟩
  obtain ⟨A, c, rfl, hrow⟩ := own_slice hown
  have hgb := gcdL_bound hin
  have HDV := Lib.hid (fun z => gcdL_dvd (zs := zs) (z := z))
  have HPOS := Lib.hid (gcdL_pos (zs := zs))
  have HLESS := Lib.hid (gcdL_less (zs := zs))
  have HCO := Lib.hid (coded_of hin (by omega))
  have HIN := Lib.hid hin
  clear hin
  go_wp2_with fail
  refine (implGcd_c A _ c _ zs _ hrow rfl (by omega) HCO.out).mono ?_
  rintro e w3 ⟨rfl, d3, rfl⟩
  have hrowW : Row (w2.drewN d3) w2.heap.size A (zs.map ic) := hrow
  have hrow1W : Row (w2.drewN d3) w.heap.size a1 (bs1.map bc) := hrow1.below (below_drewN hbel d3) (Nat.le_refl _)
  have hbelW := below_drewN hbel d3
  have hsz : (w2.drewN d3).heap.size = w2.heap.size := rfl
  clear hrow hrow1 hbel hown
  rw [← hsz] at hrowW
  clear hsz
  generalize w2.drewN d3 = W at hrowW hrow1W hbelW
  generalize hd : gcdL zs = d at *
  clear hd w2 d3
  go_wp2_with fail
  go_loop [8, 9] (fun t i => ∃ k : Nat, k ≤ zs.length ∧ i = .int .i64 k ∧ t = .bool (anyB (zs.take k))) (fun _ i => zs.length - (intOf i).toNat)
  case atStart => exact ⟨0, Nat.zero_le _, rfl, rfl⟩
  case round =>
    obtain ⟨k, hk, rfl, rfl⟩ := hrel
    by_cases hlt : k < zs.length
    · obtain ⟨b, off, x, rfl, hb, hx, hc⟩ := hrowW.int_at (k := k) hlt
      have hany := anyB_succ hx
      have hxc : InC x := HIN.out x (List.mem_of_getElem? hx)
      have hdv : d ∣ x.natAbs := HDV.out x (List.mem_of_getElem? hx)
      have hx1 := hxc.1
      have hx2 := hxc.2
      have htm := tmod_zero hdv
      have HXC := Lib.hid hxc
      clear hx hxc
      generalize anyB (zs.take k) = t at hany ⊢
      have HANY := Lib.hid hany
      clear hany
      by_cases hx0 : x = 0
      · subst hx0
        have ha : Hid (anyB (zs.take (k + 1)) = t) := by show _ = _; rw [HANY.out]; simp
        clear HANY hdv
        by_cases hd0 : d = 0
        · have hq : ((d : Int) == 0) = true := by simp; omega
          have hdp : (d : Int) ≤ 0 := by omega
          clear hd0
          cases t
          all_goals
            go_wp2_with fail
            refine (r8At_c a1 len1 cap1 _ bs1 (k : Int) _ hrow1W hlen1 hb1 (by omega)).mono ?_
            rintro e w' ⟨y, rfl, hy0, hy1, rfl⟩
            have hf := floor_facts 0 (1 + y) HXC.out (by omega)
            go_wp2_with fail
            refine (divFloor_c 0 (1 + y) _ HXC.out (by omega) (by omega)).mono ?_
            rintro e w' ⟨rfl, rfl⟩
            generalize 0 / (1 + y) = q at hf ⊢
            obtain ⟨hf1, hf2, hf3, hf4⟩ := hf
            go_wp2_with fail
            go_round
            case rel => exact ⟨k + 1, by omega, by go_num, by rw [ha.out]⟩
            case measure => simp [intOf]; omega
        · have hq : ((d : Int) == 0) = false := by simp; omega
          have hdp : (0 : Int) < d := by omega
          cases t
          all_goals
            go_wp2_with fail
            refine (r8At_c a1 len1 cap1 _ bs1 (k : Int) _ hrow1W hlen1 hb1 (by omega)).mono ?_
            rintro e w' ⟨y, rfl, hy0, hy1, rfl⟩
            have hf := floor_facts 0 (1 + y) HXC.out (by omega)
            go_wp2_with fail
            refine (divFloor_c 0 (1 + y) _ HXC.out (by omega) (by omega)).mono ?_
            rintro e w' ⟨rfl, rfl⟩
            generalize 0 / (1 + y) = q at hf ⊢
            obtain ⟨hf1, hf2, hf3, hf4⟩ := hf
            go_wp2_with fail
            go_round
            case rel => exact ⟨k + 1, by omega, by go_num, by rw [ha.out]⟩
            case measure => simp [intOf]; omega
      · have hxb : (x == 0) = false := by simpa using hx0
        have hxn : (x != 0) = true := by simpa using hx0
        have ha : Hid (anyB (zs.take (k + 1)) = true) := by show _ = _; rw [HANY.out, hxn, Bool.or_true]
        have hd0 : ¬ d = 0 := fun e => hx0 (by rw [e] at hdv; have := Nat.eq_zero_of_zero_dvd hdv; omega)
        have hq : ((d : Int) == 0) = false := by simp; omega
        have hdp : (0 : Int) < d := by omega
        clear HANY hdv
        cases t
        all_goals
          go_wp2_with fail
          refine (r8At_c a1 len1 cap1 _ bs1 (k : Int) _ hrow1W hlen1 hb1 (by omega)).mono ?_
          rintro e w' ⟨y, rfl, hy0, hy1, rfl⟩
          have hf := floor_facts x (1 + y) HXC.out (by omega)
          go_wp2_with fail
          refine (divFloor_c x (1 + y) _ HXC.out (by omega) (by omega)).mono ?_
          rintro e w' ⟨rfl, rfl⟩
          generalize x / (1 + y) = q at hf ⊢
          obtain ⟨hf1, hf2, hf3, hf4⟩ := hf
          go_wp2_with fail
          go_round
          case rel => exact ⟨k + 1, by omega, by go_num, by rw [ha.out]⟩
          case measure => simp [intOf]; omega
    · have he : zs.take k = zs := List.take_of_length_le (by omega)
      rw [he]
      clear he
      by_cases hd0 : d = 0
      · have hany : anyB zs = false := by
          cases h : anyB zs with
          | false => rfl
          | true => have := HPOS.out.2 h; omega
        rw [hany]
        have hq : ((d : Int) == 0) = true := by simp; omega
        have hdp : (d : Int) ≤ 0 := by omega
        have hls : decide ((0 : Int) < (d : Int)) = false := by simpa using hdp
        clear hd0 hany
        go_wp2_with fail
        go_loopw [13, 14] (fun v i wr => ∃ k : Nat, k ≤ 0 ∧ i = .int .i64 k ∧ v = .slice (some ⟨W.heap.size, 0, none⟩) 0 0 ∧ Below W.heap.size W wr) (fun _ _ _ => 0)
        case atStart => exact ⟨0, by omega, rfl, rfl, (Below.refl _ _).alloc (Nat.le_refl _) _⟩
        case round =>
          clear hk hlt
          obtain ⟨k, hk, rfl, rfl, hbel⟩ := hrel
          have hrow0 : Row wr 0 (some ⟨W.heap.size, 0, none⟩) (([] : List Int).map ic) := Row.nil
          by_cases hz0 : k < zs.length
          all_goals
            go_wp2_with fail
            refine (implGcd_c _ 0 0 _ [] _ hrow0 rfl (by omega) (by decide)).mono ?_
            rintro e w5 ⟨rfl, d5, rfl⟩
            go_wp2_with fail
            go_ret
            exact ⟨rfl, below_drewN (hbelW.trans (hbel.mono hbelW.size)) _⟩
      · have hany : anyB zs = true := HPOS.out.1 (by omega)
        rw [hany]
        have hq : ((d : Int) == 0) = false := by simp; omega
        have hdp : (0 : Int) < d := by omega
        have hls : decide (0 < d) = true := by simp; omega
        obtain ⟨i0, hi, hz0, hz1, hzb⟩ := info_parts info64
        have hmade : (W.alloc (.cells #[] 2)).ownsRow W.heap.size 2 1 (.slice (some ⟨W.heap.size, 0, none⟩) 0 0) (([] : List Int).length) (([] : List Int).map ic) := World.ownsRow_made W #[] 0 (Nat.le_refl _) (by decide) rfl
        have HM := Lib.hid hmade
        clear hmade
        go_wp2_with fail
        go_loopw [13, 14] (fun v i wr => ∃ k : Nat, k ≤ zs.length ∧ i = .int .i64 k ∧ wr.ownsRow W.heap.size 2 1 v ((zs.take k).map fun z => z.tdiv (d : Int)).length (((zs.take k).map fun z => z.tdiv (d : Int)).map ic) ∧ Below W.heap.size W wr) (fun _ i _ => zs.length - (intOf i).toNat)
        case atStart => exact ⟨0, Nat.zero_le _, rfl, HM.out, (Below.refl _ _).alloc (Nat.le_refl _) _⟩
        case round =>
          clear HM hk hlt
          obtain ⟨k, hk, rfl, hown, hbel⟩ := hrel
          have hsz := hbel.size
          by_cases hlt : k < zs.length
          · obtain ⟨b, off, x, rfl, hb, hx, hc⟩ := (hrowW.below hbel (Nat.le_refl _)).int_at (k := k) hlt
            have hxc : InC x := HIN.out x (List.mem_of_getElem? hx)
            have hxd := inC_tdiv (d := d) hxc
            have hx1 := hxc.1
            have hx2 := hxc.2
            have hd1 := hxd.1
            have hd2 := hxd.2
            have hlen : ((zs.take k).map fun z => z.tdiv (d : Int)).length = k := by rw [List.length_map, List.length_take]; omega
            have HLN := Lib.hid hlen
            have HX := Lib.hid (less_ext (d := d) hx)
            clear hx hxc hxd hlen
            generalize ((zs.take k).map fun z => z.tdiv (d : Int)) = ls at hown HLN HX
            have hll : ls.length ≤ 7 := by have := HLN.out; omega
            go_wp2_with (at_builtin; refine wpList_append_own _ rfl _ _ 22 rfl W.heap.size 2 i0 (.int .i64 0) 1 8 Try.underlying22 hi hz0 hz1 hzb rfl (by decide) _ _ _ rfl (hown.alloc _) ⟨wr.heap.size, 0, none⟩ 1 1 [.int .i64 (x.tdiv (d : Int))] rfl rfl ?c1 ?c2 ?c3 ?c4 ?c5 ?_)
            case c1 =>
              intro j u hj
              match j, hj with
              | 0, hj => simp at hj; subst hj; simp [Addr.add]
            case c2 => intro u hu; simp at hu; subst hu; rfl
            case c3 => unfold maxLen; omega
            case c4 => omega
            case c5 => simp; omega
            intro v' w1 hown1 hgrow _
            have hbel1 : Below W.heap.size W w1 := (hbel.alloc hsz _).grown hgrow (by simp; omega) (fun j hj => (hown.lt j hj).1)
            have hown2 := row_ext hown1
            rw [← HX.out] at hown2
            have HO := Lib.hid hown2
            clear hown1 hgrow hown hown2
            go_wp2_with fail
            go_roundw
            case rel => exact ⟨k + 1, by omega, by go_num, HO.out, hbel1⟩
            case measure => simp [intOf]; omega
          · have he : zs.take k = zs := List.take_of_length_le (by omega)
            rw [he] at hown
            obtain ⟨A', c', rfl, hrow'⟩ := own_slice hown
            have hlen : (zs.map fun z => z.tdiv (d : Int)).length = zs.length := List.length_map ..
            have hco : codedB (zs.map fun z => z.tdiv (d : Int)) = true := coded_of (fun z hz => by
              obtain ⟨y, hy, rfl⟩ := List.mem_map.1 hz
              exact inC_tdiv (HIN.out y hy)) (by omega)
            have HL1 := Lib.hid (HLESS.out (by omega))
            have HR := Lib.hid (fun n w' => implGcd_c A' n c' wr.heap.size (zs.map fun z => z.tdiv (d : Int)) w')
            have HRow := Lib.hid hrow'
            have HLN := Lib.hid hlen
            have HCO2 := Lib.hid hco
            clear hlen hco
            clear hown hrow' he
            go_wp2_with fail
            refine (HR.out zs.length _ HRow.out HLN.out (by omega) HCO2.out).mono ?_
            rintro e w5 ⟨rfl, d5, rfl⟩
            rw [HL1.out]
            go_wp2_with fail
            go_ret
            exact ⟨rfl, below_drewN (hbelW.trans (hbel.mono hbelW.size)) _⟩

set_option maxRecDepth 100000 in
theorem lifted (os : Os) (started : os.Started) (H : Type) (enc : TypeId × Value → H) :
    ReturnsInHanded {} Try.checked os 5 .any (Rows.fnDivisorsSpec.pre6 enc Try.prog Try.f5 Rows.fnDivisorsRow.domain false) (Rows.fnDivisorsSpec.post enc Try.prog Try.f5 false true false false) := by
  refine returnsInHanded_of_change (C := Try.checked) own started (by kernel_rfl) Try.func5
    (ChangeSpec.witness6 (enc := enc) (C := Try.checked) false ⟨#[], #[.slice none 0 0, .slice none 0 0], []⟩ 8 (by kernel_rfl) (by kernel_rfl) (by kernel_rfl) (by kernel_rfl)) ?_
  intro W base args ds gs before hval0 hW hcnd _
  have hval : ∀ (j : Nat) t v, Try.f5.params[j]? = some t → args[j]? = some v → Value.okWide Try.prog W .any base t v := hval0
  have hW' := hW
  obtain ⟨p, q, hA0, hV, rfl, hfz, hnd⟩ := hW
  have hA : DataW.TrodAll enc Try.prog W 0 (fun _ => true) true Try.f5.params.toList args.toList ds p := hA0
  rw [Try.params5] at hA hval
  obtain ⟨v0, vs0, d0, ds0, p0, q0, hargs, rfl, rfl, h0, r0⟩ := trodAll_cons hA
  obtain ⟨v1, vs1, d1, ds1, p1, q1, rfl, rfl, rfl, h1, r1⟩ := trodAll_cons r0
  obtain ⟨rfl, rfl, rfl⟩ := trodAll_nil r1
  obtain rfl : args = #[v0, v1] := by cases args; simp_all
  obtain ⟨rfl, rfl⟩ := trodVars_none hV
  obtain ⟨a0, len0, cap0, rfl⟩ := okWide_slice Try.underlying30 (hval 0 30 v0 rfl rfl)
  have k0 := h0
  have lt0 : ∀ x ∈ p0, x.block < W.heap.size := by obtain ⟨m, hm⟩ := k0; exact DataW.trod_lt m _ _ _ hm
  obtain ⟨z0, w0⟩ : ∃ zs, IsRow .u8 W a0 len0 cap0 zs := by
    obtain ⟨fuel, hf⟩ := h0
    rcases open_ints Try.underlying30 Try.underlying5 (by kernel_rfl) hf with ⟨hcs, _⟩ | ⟨x, l, c, zs, hcs, _, hl, hm, hz, _, hcell, hwz⟩
    · simp [Value.cells] at hcs
      obtain ⟨rfl, rfl, rfl⟩ := hcs
      exact ⟨[], .inl ⟨rfl, rfl, rfl, rfl⟩⟩
    · simp [Value.cells] at hcs
      obtain ⟨rfl, rfl, rfl⟩ := hcs
      exact ⟨zs, .inr ⟨_, rfl, hl, hm, by simpa using hz, hcell, hwz⟩⟩
  obtain ⟨a1, len1, cap1, rfl⟩ := okWide_slice Try.underlying30 (hval 1 30 v1 rfl rfl)
  have k1 := h1
  have lt1 : ∀ x ∈ p1, x.block < W.heap.size := by obtain ⟨m, hm⟩ := k1; exact DataW.trod_lt m _ _ _ hm
  obtain ⟨z1, w1⟩ : ∃ zs, IsRow .u8 W a1 len1 cap1 zs := by
    obtain ⟨fuel, hf⟩ := h1
    rcases open_ints Try.underlying30 Try.underlying5 (by kernel_rfl) hf with ⟨hcs, _⟩ | ⟨x, l, c, zs, hcs, _, hl, hm, hz, _, hcell, hwz⟩
    · simp [Value.cells] at hcs
      obtain ⟨rfl, rfl, rfl⟩ := hcs
      exact ⟨[], .inl ⟨rfl, rfl, rfl, rfl⟩⟩
    · simp [Value.cells] at hcs
      obtain ⟨rfl, rfl, rfl⟩ := hcs
      exact ⟨zs, .inr ⟨_, rfl, hl, hm, by simpa using hz, hcell, hwz⟩⟩
  clear hA0 hval0
  refine (walk a0 len0 cap0 z0 a1 len1 cap1 z1 W w0 w1).mono fun e W' ⟨he, bel⟩ => ?_
  subst he
  exact ⟨_, rfl, _, _, _, [], _, [], hW', trodAll_mk1 (shut_bool Try.underlying4 _), (trodAll_cons_mk (Below.trod laidOut (by kernel_rfl) (of_decide_eq_true (by kernel_rfl)) k0 bel lt0) (trodAll_cons_mk (Below.trod laidOut (by kernel_rfl) (of_decide_eq_true (by kernel_rfl)) k1 bel lt1) trodAll_mk0)), rfl, bel.frame _, fun h => by cases h⟩

theorem over : Rows.fnDivisorsRow.holds Try.pinned (OpenSpec.ofChange Rows.fnDivisorsSpec) :=
  OpenClaim.holds_of_wide 5 Try.f5 rfl rfl rfl rfl rfl rfl rfl ⟨rfl, rfl, rfl, rfl, rfl⟩ rfl rfl rfl rfl rfl (by kernel_rfl) Try.func5 (by kernel_rfl)
    (of_decide_eq_true (by kernel_rfl)) (by unfold Func.isWrapper; first | (rw [if_pos (by decide +kernel)]; kernel_rfl) | (rw [if_neg (by decide +kernel)]; exact ⟨rfl, rfl⟩))
    (fun os started H enc _ => lifted os started H enc)

/-- The statement. -/
theorem proved : Rows.FnDivisorsSaid := over
#print axioms proved
end Go.Proofs.Ytccjnnkohmmooac.fnDivisors
