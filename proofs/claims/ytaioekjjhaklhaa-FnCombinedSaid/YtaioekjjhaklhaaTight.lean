/-
  A fact divided by the common divisor of its coefficients: the program's function. Conditions: at most 2^20 coefficients.
-/
import Derived.Test.YtaioekjjhaklhaaGcdV
import Derived.Test.YtaioekjjhaklhaaImplT1
import Derived.Test.YtaioekjjhaklhaaBlk
namespace Go.Proofs.Ytaioekjjhaklhaa
set_option linter.unusedVariables false
open Go.RowKit

def anyB (zs : List Int) : Bool := zs.any fun z => z != 0
theorem anyB_succ {zs : List Int} {k : Nat} {x : Int} (hx : zs[k]? = some x) : anyB (zs.take (k + 1)) = (anyB (zs.take k) || x != 0) := by
  simp [anyB, List.take_add_one, hx]
theorem fold_gcd_dvd : ∀ (zs : List Int) (a : Nat), (zs.foldl (fun g z => Nat.gcd g z.natAbs) a ∣ a) ∧ ∀ z ∈ zs, zs.foldl (fun g z => Nat.gcd g z.natAbs) a ∣ z.natAbs
  | [], a => ⟨Nat.dvd_refl _, fun _ h => by simp at h⟩
  | y :: zs, a => by
    obtain ⟨h1, h2⟩ := fold_gcd_dvd zs (Nat.gcd a y.natAbs)
    refine ⟨Nat.dvd_trans h1 (Nat.gcd_dvd_left _ _), fun z hz => ?_⟩
    rcases List.mem_cons.1 hz with rfl | hz
    · exact Nat.dvd_trans h1 (Nat.gcd_dvd_right _ _)
    · exact h2 z hz
theorem gcdL_dvd {zs : List Int} {z : Int} (h : z ∈ zs) : gcdL zs ∣ z.natAbs := (fold_gcd_dvd zs 0).2 z h
theorem gcdL_pos {zs : List Int} : (0 < gcdL zs) ↔ anyB zs = true := by
  constructor
  · intro h
    cases ha : anyB zs with
    | true => rfl
    | false =>
      have h0 : ∀ z ∈ zs, z = 0 := by
        intro z hz
        simp only [anyB, List.any_eq_false] at ha
        simpa using ha z hz
      have : ∀ (l : List Int), (∀ z ∈ l, z = 0) → l.foldl (fun g z => Nat.gcd g z.natAbs) 0 = 0 := by
        intro l
        induction l with
        | nil => intro _; rfl
        | cons y l ih =>
          intro hl
          rw [List.foldl_cons, hl y (List.mem_cons_self ..)]
          exact ih fun z hz => hl z (List.mem_cons_of_mem _ hz)
      have := this zs h0
      unfold gcdL at h
      omega
  · intro h
    simp only [anyB, List.any_eq_true] at h
    obtain ⟨z, hz, hne⟩ := h
    have := gcdL_dvd hz
    rcases Nat.eq_zero_or_pos (gcdL zs) with h0 | h0
    · rw [h0] at this
      have := Nat.eq_zero_of_zero_dvd this
      have hz0 : z = 0 := by omega
      simp [hz0] at hne
    · exact h0
theorem tmod_zero {z : Int} {d : Nat} (h : d ∣ z.natAbs) : z.tmod (d : Int) = 0 := by
  have : (d : Int) ∣ z := Int.ofNat_dvd_left.2 h
  exact Int.tmod_eq_zero_of_dvd this
theorem fold_scale (d : Nat) (hd : 0 < d) : ∀ (zs : List Int) (a : Nat), (∀ z ∈ zs, d ∣ z.natAbs) →
    d * (zs.map fun z => z.tdiv (d : Int)).foldl (fun g z => Nat.gcd g z.natAbs) a = zs.foldl (fun g z => Nat.gcd g z.natAbs) (d * a)
  | [], a, _ => rfl
  | y :: zs, a, h => by
    rw [List.map_cons, List.foldl_cons, List.foldl_cons, fold_scale d hd zs _ fun z hz => h z (List.mem_cons_of_mem _ hz)]
    congr 1
    rw [← Nat.gcd_mul_left]
    congr 1
    rw [Int.natAbs_tdiv, Int.natAbs_natCast]
    exact Nat.mul_div_cancel' (h y (List.mem_cons_self ..))
theorem gcdL_less {zs : List Int} (h : 0 < gcdL zs) : gcdL (zs.map fun z => z.tdiv (gcdL zs : Int)) = 1 := by
  have h1 := fold_scale (gcdL zs) h zs 0 fun z hz => gcdL_dvd hz
  rw [Nat.mul_zero] at h1
  have h2 : gcdL zs * gcdL (zs.map fun z => z.tdiv (gcdL zs : Int)) = gcdL zs * 1 := by rw [Nat.mul_one]; exact h1
  exact Nat.eq_of_mul_eq_mul_left h h2
theorem inC_tdiv {z : Int} {d : Nat} (h : InC z) : InC (z.tdiv (d : Int)) := by
  have h1 : (z.tdiv (d : Int)).natAbs ≤ z.natAbs := by rw [Int.natAbs_tdiv]; exact Nat.div_le_self _ _
  obtain ⟨a, b⟩ := h
  exact ⟨by omega, by omega⟩
theorem coded_of {zs : List Int} (h : ∀ z ∈ zs, InC z) (hl : zs.length ≤ 100) : codedB zs = true := by
  unfold codedB
  rw [decide_eq_true h, decide_eq_true hl]; rfl
theorem gcdL_bound {zs : List Int} (h : ∀ z ∈ zs, InC z) : (gcdL zs : Int) ≤ 1000000000000000 := by
  rcases Nat.eq_zero_or_pos (gcdL zs) with h0 | h0
  · omega
  · have ha := gcdL_pos.1 h0
    simp only [anyB, List.any_eq_true] at ha
    obtain ⟨z, hz, hne⟩ := ha
    have hd := gcdL_dvd hz
    have hz0 : z ≠ 0 := by simpa using hne
    have := Nat.le_of_dvd (by omega) hd
    obtain ⟨a, b⟩ := h z hz
    omega
/-- A quotient that is rounded down. -/
theorem floor_facts (x y : Int) (hx : InC x) (hy : 1 ≤ y) : (x / y) * y ≤ x ∧ x - (x / y) * y < y ∧ -1000000000000000 ≤ x / y ∧ x / y ≤ 1000000000000000 := by
  have h1 := Int.emod_add_mul_ediv x y
  have h2 := Int.emod_lt_of_pos x (by omega : 0 < y)
  have h3 := Int.emod_nonneg x (by omega : y ≠ 0)
  rw [Int.mul_comm] at h1
  obtain ⟨a, b⟩ := hx
  refine ⟨by omega, by omega, ?_, ?_⟩
  · exact Int.le_ediv_of_mul_le (by omega) (by have : -1000000000000000 * y ≤ -1000000000000000 * 1 := by omega
                                               omega)
  · rcases Int.lt_or_le x 0 with hn | hn
    · have := Int.ediv_neg_of_neg_of_pos hn (by omega : 0 < y)
      omega
    · exact Int.le_trans (Int.ediv_le_self _ hn) b
theorem tdiv_floor (x y : Int) (hy : 1 ≤ y) : (if x.tmod y < 0 then x.tdiv y - 1 else x.tdiv y) = x / y := by
  have h1 := Int.tmod_add_mul_tdiv x y
  have h2 := Int.tmod_lt_of_pos x (by omega : 0 < y)
  have h3 : -y < x.tmod y := by
    have := Int.lt_tmod_of_pos x (by omega : 0 < y)
    exact this
  have e1 := Int.emod_add_mul_ediv x y
  have e2 := Int.emod_lt_of_pos x (by omega : 0 < y)
  have e3 := Int.emod_nonneg x (by omega : y ≠ 0)
  generalize x.tdiv y = p at *
  generalize x.tmod y = r at *
  generalize x / y = q at *
  generalize x % y = t at *
  split
  · have hlt : y * (p - 1 - q) < y * 1 := by rw [Int.mul_sub, Int.mul_sub]; omega
    have hgt : y * (-1) < y * (p - 1 - q) := by rw [Int.mul_sub, Int.mul_sub]; omega
    have a := Int.lt_of_mul_lt_mul_left hlt (by omega)
    have b := Int.lt_of_mul_lt_mul_left hgt (by omega)
    omega
  · have hlt : y * (p - q) < y * 1 := by rw [Int.mul_sub]; omega
    have hgt : y * (-1) < y * (p - q) := by rw [Int.mul_sub]; omega
    have a := Int.lt_of_mul_lt_mul_left hlt (by omega)
    have b := Int.lt_of_mul_lt_mul_left hgt (by omega)
    omega
set_option maxHeartbeats 400000 in
theorem divFloor_c (a b : Int) (w : World) (ha : InC a) (hb1 : 1 ≤ b) (hb2 : b ≤ 1000000000000000) :
    Calls Try.prog 57 #[.int .i64 a, .int .i64 b] w fun e w' => e = .returned (.tuple #[.int .i64 (a / b), .bool true]) ∧ w = w' := by
  have HF := Lib.hid (tdiv_floor a b hb1)
  obtain ⟨h1, h2⟩ := ha
  have hq1 : -1000000000000000 ≤ a.tdiv b ∧ a.tdiv b ≤ 1000000000000000 := by
    have h : (a.tdiv b).natAbs ≤ a.natAbs := by rw [Int.natAbs_tdiv]; exact Nat.div_le_self _ _
    omega
  obtain ⟨hq1, hq2⟩ := hq1
  by_cases h : a.tmod b < 0
  all_goals
    go_enter Try.func57, Try.ntmps57
    go_wp2
    go_ret2
    exact ⟨ret_int_bool (by rw [← HF.out]; split <;> first | rfl | omega), rfl⟩

/-- The tightened fact, and whether there is one. -/
def tightR (t : Int × List Int) : (Int × List Int) × Bool := if tmB t = true ∧ 2 ≤ gcdL t.2 then ((t.1 / (gcdL t.2 : Int), t.2.map (fun z => z.tdiv (gcdL t.2 : Int))), true) else ((0, []), false)
theorem tightR_yes {t : Int × List Int} (h : tmB t = true) (k : 2 ≤ gcdL t.2) : tightR t = ((t.1 / (gcdL t.2 : Int), t.2.map (fun z => z.tdiv (gcdL t.2 : Int))), true) := if_pos ⟨h, k⟩
theorem tightR_no {t : Int × List Int} (h : tmB t = false) : tightR t = ((0, []), false) := if_neg (by rw [h]; simp)
theorem tightR_no2 {t : Int × List Int} (h : ¬ 2 ≤ gcdL t.2) : tightR t = ((0, []), false) := if_neg (fun a => h a.2)
theorem tm_coded {t : Int × List Int} (h : tmB t = true) : codedB t.2 = true := by
  obtain ⟨a, _, c, _⟩ := tmB_parts h
  exact coded_of (fun z hz => by have := c z hz; exact ⟨by omega, by omega⟩) (by omega)
theorem tdiv_le {z : Int} {d : Nat} (z1 : -1000000 ≤ z) (z2 : z ≤ 1000000) : -1000000 ≤ z.tdiv (d : Int) ∧ z.tdiv (d : Int) ≤ 1000000 := by
  have h : (z.tdiv (d : Int)).natAbs ≤ z.natAbs := by rw [Int.natAbs_tdiv]; exact Nat.div_le_self _ _
  omega

set_option maxRecDepth 100000 in
theorem tightFn_c (z : Int) (gd d : Nat) (w : World) (hc : w.cell? ⟨gd, 0, none⟩ = some (.int .i64 (d : Int))) (hd : 2 ≤ d) (z1 : -1000000 ≤ z) (z2 : z ≤ 1000000) :
    Calls Try.prog 59 #[.int .i64 z, .pointer (some ⟨gd, 0, none⟩)] w fun e w' => e = .returned (.int .i64 (z.tdiv (d : Int))) ∧ w = w' := by
  obtain ⟨q1, q2⟩ := tdiv_le (d := d) z1 z2
  have h0 : ((d : Int) == 0) = false := by simp; omega
  have h1 : ¬ (d : Int) = 0 := by omega
  go_enter Try.func59, Try.ntmps59
  go_wp2
  go_ret
  exact ⟨rfl, rfl⟩

set_option maxRecDepth 100000 in
set_option maxHeartbeats 1000000 in
theorem eachDiv_c (A : Option Addr) (n c B : Nat) (zs : List Int) (gd d : Nat) (w : World) (h : InL w B A n zs) (hB : B ≤ w.heap.size) (hn : n ≤ 10000) (hd : w.cell? ⟨gd, 0, none⟩ = some (.int .i64 (d : Int))) (hd2 : 2 ≤ d) (hz : ∀ z ∈ zs, -1000000 ≤ z ∧ z ≤ 1000000) :
    Calls Try.prog 58 #[.slice A n c, .func (Fn.func 59) #[] #[.pointer (some ⟨gd, 0, none⟩)]] w fun e w' => ∃ g, e = .returned (.slice (some ⟨g, 0, none⟩) n n) ∧ OwnL w' w.heap.size w'.heap.size (some ⟨g, 0, none⟩) n n (zs.map (fun z => z.tdiv (d : Int))) ∧ Below w.heap.size w w' := by
  obtain ⟨i0, hi, hz0, hz1, hz2⟩ := info_parts info64
  have hlen := Lib.hid h.1
  have HZ := Lib.hid hz
  have hl2 : ((zs.map (fun z => z.tdiv (d : Int))).map ic).length = n := by simp [hlen.out]
  have HL2 := Lib.hid hl2
  clear hz hl2
  go_enter Try.func58, Try.ntmps58
  go_wp2_with (at_make; refine wpList_make_full _ rfl _ _ 24 rfl w.heap.size 2 i0 (.int .i64 0) 1 Try.underlying24 hi hz0 hz1 .i64 .i64 _ _ n rfl rfl rfl rfl (by rw [hz2]; omega) (by unfold maxLen; omega) (Nat.le_refl _) ?_; intro w1 hown hgrow)
  rw [copy_start n ((zs.map (fun z => z.tdiv (d : Int))).map ic)] at hown
  have hb1 := (Below.refl w.heap.size w).grown hgrow (Nat.le_refl _) (fun _ h => by cases h)
  clear hgrow
  go_loopw [6, 7, 13] (fun _ _ i wr => ∃ k : Nat, k ≤ n ∧ i = .int .i64 k ∧ wr.ownsRow w.heap.size 2 1 (.slice (some ⟨w.heap.size, 0, none⟩) n n) n (((zs.map (fun z => z.tdiv (d : Int))).map ic).take k ++ List.replicate (n - k) (.int .i64 0)) ∧ Below w.heap.size w wr) (fun _ _ i _ => n - (intOf i).toNat)
  case atStart => exact ⟨0, Nat.zero_le _, rfl, hown, hb1⟩
  case round =>
    clear hown hb1
    obtain ⟨k, hk, rfl, hown, hbel⟩ := hrel
    by_cases hlt : k < n
    · obtain ⟨b, off, x, rfl, hb, hx, hc⟩ := (h.next hbel hB).2.int_at (k := k) (by have := hlen.out; omega)
      have hxb := HZ.out x (List.mem_of_getElem? hx)
      have HC := Lib.hid (tightFn_c x gd d wr (cell_next hd hbel) hd2 hxb.1 hxb.2)
      have hVk : ((zs.map (fun z => z.tdiv (d : Int))).map ic)[k]? = some (.int .i64 (x.tdiv (d : Int))) := by simp [hx, ic]
      have hst := hown.stored k (.int .i64 (x.tdiv (d : Int)))
      rw [copy_step HL2.out hlt hVk] at hst
      have hfz := hown.frozenAt k
      have hul : k < (((zs.map (fun z => z.tdiv (d : Int))).map ic).take k ++ List.replicate (n - k) (Value.int .i64 0)).length := by simp [hlen.out]; omega
      have hcl := hown.cellAt k (by omega)
      rw [List.getElem?_eq_getElem hul] at hcl
      have HST := Lib.hid hst
      have hsz := hbel.size
      generalize (((zs.map (fun z => z.tdiv (d : Int))).map ic).take k ++ List.replicate (n - k) (Value.int .i64 0)) = ys at hown hul hcl
      clear hx hst hVk hxb
      go_wp2_with (go_at_call 59; refine HC.out.mono ?_; rintro e w2 ⟨rfl, rfl⟩)
      go_roundw
      case rel => exact ⟨k + 1, by omega, by go_num, HST.out.1, hbel.setCell (p := ⟨w.heap.size, k, none⟩) (Nat.le_refl _) _⟩
      case measure => simp [intOf]; omega
    · have e : k = n := by omega
      subst e
      rw [copy_end HL2.out] at hown
      go_wp2_with fail
      go_ret
      exact ⟨_, rfl, OwnL.of_own hown, hbel⟩

set_option maxRecDepth 100000 in
set_option maxHeartbeats 2000000 in
theorem implTight_c (c0 : Int) (A : Option Addr) (n cp : Nat) (zs : List Int) (w : World) (h : InL w w.heap.size A n zs) (hn : n ≤ 1048576) :
    Calls Try.prog 21 #[.agg #[.int .i64 c0, .slice A n cp]] w (GivesT (tightR (c0, zs)) w) := by
  have hmf : ∀ (fn : Fn) (first cap : Array Value) (w : World), (Instr.makeFunc fn first cap).run Try.prog w = .ok (.func fn first cap) w := fun _ _ _ _ => rfl
  have hb0 : Below w.heap.size w ((w.alloc (.cells #[.int .i64 c0, .slice A n cp] 26)).alloc (.cells #[.int .i64 0, .slice none 0 0] 26)) := bon (bnew _ _) (bnew _ _)
  have hP : BlkIs ((w.alloc (.cells #[.int .i64 c0, .slice A n cp] 26)).alloc (.cells #[.int .i64 0, .slice none 0 0] 26)) w.heap.size 26 #[.int .i64 c0, .slice A n cp] := (blk_new w _ _ _ rfl).next (bnew _ _)
  have hR : BlkIs ((w.alloc (.cells #[.int .i64 c0, .slice A n cp] 26)).alloc (.cells #[.int .i64 0, .slice none 0 0] 26)) (w.heap.size + 1) 26 #[.int .i64 0, .slice none 0 0] := blk_new _ _ _ _ (by simp)
  have H1 := Lib.hid (h.next hb0 (Nat.le_refl _))
  clear h
  obtain ⟨R, HR⟩ : ∃ R, Hid (tightR (c0, zs) = R) := ⟨_, rfl⟩
  rw [HR.out]
  go_enter Try.func21, Try.ntmps21
  go_wp2_with fail
  generalize (w.alloc (.cells #[.int .i64 c0, .slice A n cp] 26)).alloc (.cells #[.int .i64 0, .slice none 0 0] 26) = W at hb0 hP hR H1 ⊢
  have hsW := hb0.size
  refine (implValid_c c0 A n cp _ zs W H1.out.2 hsW H1.out.1 hn).mono ?_
  rintro e w1 ⟨rfl, hb1⟩
  have hs1 := hb1.size
  replace hP := hP.next hb1
  replace hR := hR.next hb1
  have H11 := Lib.hid (H1.out.next hb1 hsW)
  have hb01 := bon hb0 hb1
  have hlR := hR.lt
  clear H1 hb0 hb1
  have p0 := hP.cell 0
  have p1 := hP.cell 1
  have r0 := hR.cell 0
  have r1 := hR.cell 1
  have f0 := hR.frozen 0
  have f1 := hR.frozen 1
  simp at p0 p1 r0 r1
  cases hv : tmB (c0, zs) with
  | false =>
    have HE : Hid (R = ((0, []), false)) := HR.out.symm.trans (tightR_no hv)
    clear hv HR
    obtain rfl := HE.out
    clear HE
    go_wp2_with fail
    refine bodyPost_ret (v := .tuple #[.agg #[.int .i64 0, .slice none 0 0], .bool false]) (by simp [results, Try.results21, go_sem, r0, r1]) rfl ?_
    unfold GivesT
    exact ⟨none, 0, 0, rfl, own_nil _ _, give_no hb01 (by omega)⟩
  | true =>
    have HV := Lib.hid hv
    have hco := tm_coded hv
    have hgb := gcdL_bound (coded_in hco)
    have hn10 : n ≤ 10 := by have := (tmB_parts hv).1; have := H11.out.1; simp at *; omega
    have hcc := (tmB_parts hv).2.1
    have HZB := Lib.hid (tmB_parts hv).2.2.1
    have HG := Lib.hid (implGcd_c A n cp _ zs w1 H11.out.2 H11.out.1 (by omega) hco)
    clear hv hco
    obtain ⟨d, hd⟩ : ∃ d, gcdL zs = d := ⟨_, rfl⟩
    have HD := Lib.hid hd
    rw [hd] at HG hgb
    clear hd
    go_wp2_with fail
    refine HG.out.mono ?_
    rintro e w2 ⟨rfl, dd, hdd⟩
    have hbd : Below w1.heap.size w1 w2 := by rw [hdd]; exact below_drewN (Below.refl w1.heap.size w1) dd
    clear hdd
    have hsd := hbd.size
    have hb2 : Below w1.heap.size w1 (w2.alloc (.cells #[.int .i64 (d : Int)] 2)) := bon hbd (bnew _ _)
    have hD : BlkIs (w2.alloc (.cells #[.int .i64 (d : Int)] 2)) w2.heap.size 2 #[.int .i64 (d : Int)] := blk_new _ _ _ _ rfl
    have P0 := cell_next p0 hb2
    have P1 := cell_next p1 hb2
    have D0 : (w2.alloc (.cells #[.int .i64 (d : Int)] 2)).cell? ⟨w2.heap.size, 0, none⟩ = some (.int .i64 (d : Int)) := hD.cell 0
    have hR2 := hR.next hb2
    have R0 := cell_next r0 hb2
    have R1 := cell_next r1 hb2
    have F0 := hR2.frozen 0
    have F1 := hR2.frozen 1
    by_cases hd2 : 2 ≤ d
    · have HE : Hid (R = ((c0 / (d : Int), zs.map (fun z => z.tdiv (d : Int))), true)) := by
        show _ = _
        rw [← HR.out, tightR_yes HV.out (by show 2 ≤ gcdL zs; rw [HD.out]; exact hd2)]
        show ((c0 / (gcdL zs : Int), zs.map (fun z => z.tdiv (gcdL zs : Int))), true) = _
        rw [HD.out]
      have hdi : ¬ ((d : Int) ≤ 1) := by omega
      have HDF := Lib.hid (divFloor_c c0 (d : Int) (w2.alloc (.cells #[.int .i64 (d : Int)] 2)) ⟨by have h := hcc.1; have h : -1000000 ≤ c0 := h; omega, by have h := hcc.2; have h : c0 ≤ 1000000 := h; omega⟩ (by omega) hgb)
      have HEA := Lib.hid (eachDiv_c A n cp w.heap.size zs w2.heap.size d (w2.alloc (.cells #[.int .i64 (d : Int)] 2)) (H11.out.next hb2 (by omega)) (Nat.le_trans (by omega) hb2.size) (by omega) D0 hd2 HZB.out)
      have hb02 := bon hb01 hb2
      have hlR2 := hR2.lt
      clear HR HG hcc r0 r1 f0 f1 p0 p1 hP hR hD
      obtain rfl := HE.out
      clear HE
      go_wp2_with fail
      generalize w2.alloc (.cells #[.int .i64 (d : Int)] 2) = w3 at hb2 P0 P1 D0 hR2 R0 R1 F0 F1 HDF HEA hb02 hlR2 ⊢
      refine HDF.out.mono ?_
      rintro e w4 ⟨rfl, rfl⟩
      go_wp2_with fail
      refine HEA.out.mono ?_
      rintro e w5 ⟨gg, rfl, hown, hb5⟩
      have hR5 := hR2.next hb5
      have r0 := hR5.cell 0
      have r1 := hR5.cell 1
      have f0 := hR5.frozen 0
      have f1 := hR5.frozen 1
      simp at r0 r1
      clear R0 R1 F0 F1
      go_wp2_with fail
      refine bodyPost_ret (v := .tuple #[.agg #[.int .i64 (c0 / (d : Int)), .slice (some ⟨gg, 0, none⟩) n n], .bool true]) (by simp [results, Try.results21, go_sem, r0, r1]) rfl ?_
      unfold GivesT
      exact ⟨_, _, _, rfl, give_end hb02 (by omega) hlR2 hown hb5⟩
    · have HE : Hid (R = ((0, []), false)) := HR.out.symm.trans (tightR_no2 (by show ¬ 2 ≤ gcdL zs; rw [HD.out]; exact hd2))
      have hdi : (d : Int) ≤ 1 := by omega
      have hb02 := bon hb01 hb2
      clear HR HG hcc r0 r1 f0 f1 p0 p1 hP hR hD
      obtain rfl := HE.out
      clear HE
      go_wp2_with fail
      generalize w2.alloc (.cells #[.int .i64 (d : Int)] 2) = w3 at hb2 P0 P1 D0 hR2 R0 R1 F0 F1 hb02 ⊢
      refine bodyPost_ret (v := .tuple #[.agg #[.int .i64 0, .slice none 0 0], .bool false]) (by simp [results, Try.results21, go_sem, R0, R1]) rfl ?_
      unfold GivesT
      exact ⟨none, 0, 0, rfl, own_nil _ _, give_no hb02 (by omega)⟩
end Go.Proofs.Ytaioekjjhaklhaa
