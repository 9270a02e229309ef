/-
  The model's step of code, put together; its StepCode. Conditions: at most 2^20 instructions and numbers; a stack's slice is not longer than its capacity.
-/
import Derived.Test.YtnfapodeifpeoaaNextA
import Derived.Test.YtnfapodeifpeoaaNextU
import Derived.Test.YtnfapodeifpeoaaNextP0
import Derived.Test.YtnfapodeifpeoaaNextP1
import Derived.Test.YtnfapodeifpeoaaNextP2
namespace Go.Proofs.Ytnfapodeifpeoaa
set_option linter.unusedVariables false
open Go.RowKit

theorem vcfB_parts {cs : List (Int × Int)} {vs zs st : List Int} {p : Int} (h : vcfB cs vs zs st p = true) : codeB cs = true ∧ CfV vs zs st p := by
  unfold vcfB cfgB stB at h
  simp only [Bool.and_eq_true, decide_eq_true_eq] at h
  obtain ⟨h1, ⟨h2, h3⟩, ⟨h4, h5⟩, h6, h7⟩ := h
  have a := numsB_parts h2
  have d := numsB_parts h3
  exact ⟨h1, a.1, d.1, h6, a.2, d.2, btw_in h7, h4, h5⟩
section
variable {cs : List (Int × Int)} {vs zs st : List Int} {p : Int}
theorem behN_go (h : outN cs st p = 0) : behN cs (vs, zs, st, p) = nextN cs (vs, zs, st, p) := if_pos h
theorem behN_stop (h : outN cs st p ≠ 0) : behN cs (vs, zs, st, p) = (vs, zs, st, p) := if_neg h
theorem behN_valid (hc : codeB cs = true) (v : CfV vs zs st p) : CfC (behN cs (vs, zs, st, p)) := by
  by_cases h : outN cs st p = 0
  · rw [behN_go h]; exact CfC.next (c := (vs, zs, st, p)) v hc h
  · rw [behN_stop h]; exact v
end

theorem l07Next_c (b : Nat) (A : Option Addr) (c : Nat) (vs : List Int) (A' : Option Addr) (c' : Nat) (zs : List Int) (A2 : Option Addr) (c2 : Nat) (st : List Int) (C : Option Addr) (k cc : Nat) (cs : List (Int × Int)) (B : Nat) (w : World) (p : Int) (hP : BlkIs w b 44 #[.slice A 4 c, .slice A' 8 c', .slice A2 st.length c2, .int .i64 p]) (h0 : InL w B A 4 vs) (h1 : InL w B A' 8 zs) (h2 : InL w B A2 st.length st) (hC : InC w B C k cs) (hB : B ≤ w.heap.size) (hc2 : st.length ≤ c2) (hcode : codeB cs = true) (v : CfV vs zs st p) :
    Calls Try.prog 62 #[.slice C k cc, .pointer (some ⟨b, 0, none⟩)] w (NextR (behN cs (vs, zs, st, p)).1 (behN cs (vs, zs, st, p)).2.1 (behN cs (vs, zs, st, p)).2.2.1 (behN cs (vs, zs, st, p)).2.2.2 (outN cs st p) w) := by
  have hk8 : k ≤ 80 := by have := (codeB_parts hcode).2.1; have := hC.1; omega
  have hp0 := v.p0
  rcases Int.lt_or_le p (k : Int) with hlt | hge
  · obtain ⟨q, rfl⟩ : ∃ q : Nat, p = q := ⟨p.toNat, by omega⟩
    obtain ⟨⟨op, a⟩, hx⟩ : ∃ x, cs[q]? = some x := ⟨_, List.getElem?_eq_getElem (by have := hC.1; omega)⟩
    have hib : instrB op a = true := codeB_at hcode hx
    have hx' : cs[(q : Int).toNat]? = some (op, a) := by simpa using hx
    cases hf : fitB op (st.length : Int) with
    | false =>
      have e : outN cs st (q : Int) = 5 := outN_unfit (x := (op, a)) hx' hf
      rw [behN_stop (by rw [e]; decide), e]
      exact next_unfit b A c vs A' c' zs A2 c2 st C k cc cs B w q op a hP h0 h1 h2 hC hB v.ls hc2 hk8 hx hib hf v
    | true =>
      have e : outN cs st (q : Int) = outO op a st := outN_fit (x := (op, a)) hx' hf
      have key : Calls Try.prog 62 #[.slice C k cc, .pointer (some ⟨b, 0, none⟩)] w (NextB op a vs zs st q w) := by
        clear hx' e
        rcases instrB_cases hib with rfl | rfl | rfl | rfl | rfl | rfl | rfl | rfl | rfl | rfl | rfl | rfl
        · exact next_pops0 b A c vs A' c' zs A2 c2 st C k cc cs B w q 0 a hP h0 h1 h2 hC hB v.ls hc2 hk8 hx hib rfl hf v (.inl rfl)
        · exact next_pops0 b A c vs A' c' zs A2 c2 st C k cc cs B w q 1 a hP h0 h1 h2 hC hB v.ls hc2 hk8 hx hib rfl hf v (.inr (.inl rfl))
        · exact next_pops1 b A c vs A' c' zs A2 c2 st C k cc cs B w q 2 a hP h0 h1 h2 hC hB v.ls hc2 hk8 hx hib rfl hf v (.inl rfl)
        · exact next_pops2 b A c vs A' c' zs A2 c2 st C k cc cs B w q 3 a hP h0 h1 h2 hC hB v.ls hc2 hk8 hx hib rfl hf v (.inl rfl)
        · exact next_pops1 b A c vs A' c' zs A2 c2 st C k cc cs B w q 4 a hP h0 h1 h2 hC hB v.ls hc2 hk8 hx hib rfl hf v (.inr (.inl rfl))
        · exact next_pops0 b A c vs A' c' zs A2 c2 st C k cc cs B w q 5 a hP h0 h1 h2 hC hB v.ls hc2 hk8 hx hib rfl hf v (.inr (.inr (.inl rfl)))
        · exact next_pops1 b A c vs A' c' zs A2 c2 st C k cc cs B w q 6 a hP h0 h1 h2 hC hB v.ls hc2 hk8 hx hib rfl hf v (.inr (.inr (.inl rfl)))
        · exact next_pops1 b A c vs A' c' zs A2 c2 st C k cc cs B w q 7 a hP h0 h1 h2 hC hB v.ls hc2 hk8 hx hib rfl hf v (.inr (.inr (.inr (.inl rfl))))
        · exact next_pops2 b A c vs A' c' zs A2 c2 st C k cc cs B w q 8 a hP h0 h1 h2 hC hB v.ls hc2 hk8 hx hib rfl hf v (.inr rfl)
        · exact next_pops0 b A c vs A' c' zs A2 c2 st C k cc cs B w q 9 a hP h0 h1 h2 hC hB v.ls hc2 hk8 hx hib rfl hf v (.inr (.inr (.inr (.inl rfl))))
        · exact next_pops1 b A c vs A' c' zs A2 c2 st C k cc cs B w q 10 a hP h0 h1 h2 hC hB v.ls hc2 hk8 hx hib rfl hf v (.inr (.inr (.inr (.inr rfl))))
        · exact next_pops0 b A c vs A' c' zs A2 c2 st C k cc cs B w q 11 a hP h0 h1 h2 hC hB v.ls hc2 hk8 hx hib rfl hf v (.inr (.inr (.inr (.inr rfl))))
      by_cases hz : outO op a st = 0
      · rw [behN_go (e.trans hz), nextN_some hx', e, hz]
        rw [nextB_done hz] at key
        exact key
      · rw [behN_stop (by rw [e]; exact hz), e]
        rw [nextB_stop rfl hz] at key
        exact key
  · have e : outN cs st p = 5 := outN_beyond (by have := hC.1; omega)
    rw [behN_stop (by rw [e]; decide), e]
    exact next_beyond b A c vs A' c' zs A2 c2 st C k cc cs B w p hP h0 h1 h2 hC hB v.ls hge

/-- What StepCode gives. -/
def stepR (cs : List (Int × Int)) (vs zs st : List Int) (p : Int) : (List Int × List Int × List Int × Int) × Int × Bool :=
  if vcfB cs vs zs st p = true then (behN cs (vs, zs, st, p), outN cs st p, true) else (([], [], [], 0), 0, false)
theorem stepR_yes {cs : List (Int × Int)} {vs zs st : List Int} {p : Int} (h : vcfB cs vs zs st p = true) : stepR cs vs zs st p = (behN cs (vs, zs, st, p), outN cs st p, true) := if_pos h
theorem stepR_no {cs : List (Int × Int)} {vs zs st : List Int} {p : Int} (h : vcfB cs vs zs st p = false) : stepR cs vs zs st p = (([], [], [], 0), 0, false) := if_neg (by rw [h]; simp)
theorem stepR_len (cs : List (Int × Int)) (vs zs st : List Int) (p : Int) : (stepR cs vs zs st p).1.1.length ≤ 1000 ∧ (stepR cs vs zs st p).1.2.1.length ≤ 1000 ∧ (stepR cs vs zs st p).1.2.2.1.length ≤ 1000 := by
  cases h : vcfB cs vs zs st p with
  | false => rw [stepR_no h]; simp
  | true =>
    rw [stepR_yes h]
    obtain ⟨hc, v⟩ := vcfB_parts h
    have b := behN_valid hc v
    have b1 := b.lv
    have b2 := b.lz
    have b3 := b.ls
    exact ⟨by show (behN cs (vs, zs, st, p)).1.length ≤ 1000; omega, by show (behN cs (vs, zs, st, p)).2.1.length ≤ 1000; omega, by show (behN cs (vs, zs, st, p)).2.2.1.length ≤ 1000; omega⟩
def StepQ (r : (List Int × List Int × List Int × Int) × Int × Bool) (w : World) : Ending → World → Prop := fun e w' =>
  ∃ X cx X' cx' X2 cx2, e = .returned (.tuple #[.agg #[.slice X r.1.1.length cx, .slice X' r.1.2.1.length cx', .slice X2 r.1.2.2.1.length cx2, .int .i64 r.1.2.2.2], .int .i64 r.2.1, .bool r.2.2]) ∧
    OwnL w' w.heap.size w'.heap.size X r.1.1.length cx r.1.1 ∧ OwnL w' w.heap.size w'.heap.size X' r.1.2.1.length cx' r.1.2.1 ∧ OwnL w' w.heap.size w'.heap.size X2 r.1.2.2.1.length cx2 r.1.2.2.1 ∧ Below w.heap.size w w'
theorem own_none (w : World) (lo hi : Nat) (h1 : lo ≤ hi) (h2 : hi ≤ w.heap.size) : OwnL w lo hi none 0 0 [] := ⟨rfl, World.ownsRow_nil _ _ _ _, (fun j hj => by cases hj), h2⟩

set_option maxRecDepth 100000 in
set_option maxHeartbeats 4000000 in
theorem specStep_c (C : Option Addr) (k cc : Nat) (cs : List (Int × Int)) (A : Option Addr) (n c : Nat) (vs : List Int) (A' : Option Addr) (m c' : Nat) (zs : List Int) (A2 : Option Addr) (q c2 : Nat) (st : List Int) (p : Int) (w : World)
    (hc : InC w w.heap.size C k cs) (h0 : InL w w.heap.size A n vs) (h1 : InL w w.heap.size A' m zs) (h2 : InL w w.heap.size A2 q st) (hk : k ≤ 1048576) (hn : n ≤ 1048576) (hm : m ≤ 1048576) (hq : q ≤ 1048576) (hq2 : q ≤ c2) :
    Calls Try.prog 26 #[.slice C k cc, .agg #[.slice A n c, .slice A' m c', .slice A2 q c2, .int .i64 p]] w (StepQ (stepR cs vs zs st p) w) := by
  have hb0 : Below w.heap.size w ((w.alloc (.cells #[.slice A n c, .slice A' m c', .slice A2 q c2, .int .i64 p] 44)).alloc (.cells #[.slice none 0 0, .slice none 0 0, .slice none 0 0, .int .i64 0] 44)) := bon (bnew _ _) (bnew _ _)
  have hP : BlkIs ((w.alloc (.cells #[.slice A n c, .slice A' m c', .slice A2 q c2, .int .i64 p] 44)).alloc (.cells #[.slice none 0 0, .slice none 0 0, .slice none 0 0, .int .i64 0] 44)) w.heap.size 44 #[.slice A n c, .slice A' m c', .slice A2 q c2, .int .i64 p] := (blk_new _ _ _ _ rfl).next (bnew _ _)
  have hR : BlkIs ((w.alloc (.cells #[.slice A n c, .slice A' m c', .slice A2 q c2, .int .i64 p] 44)).alloc (.cells #[.slice none 0 0, .slice none 0 0, .slice none 0 0, .int .i64 0] 44)) (w.heap.size + 1) 44 #[.slice none 0 0, .slice none 0 0, .slice none 0 0, .int .i64 0] := blk_new _ _ _ _ (by simp)
  have hsz : ((w.alloc (.cells #[.slice A n c, .slice A' m c', .slice A2 q c2, .int .i64 p] 44)).alloc (.cells #[.slice none 0 0, .slice none 0 0, .slice none 0 0, .int .i64 0] 44)).heap.size = w.heap.size + 2 := by simp
  have HC0 := Lib.hid (hc.next hb0 (Nat.le_refl _))
  have H0 := Lib.hid (h0.next hb0 (Nat.le_refl _))
  have H1 := Lib.hid (h1.next hb0 (Nat.le_refl _))
  have H2 := Lib.hid (h2.next hb0 (Nat.le_refl _))
  obtain ⟨R, HR⟩ : ∃ R, Hid (stepR cs vs zs st p = R) := ⟨_, rfl⟩
  rw [HR.out]
  have fin : ∀ (x : World), BlkIs x (w.heap.size + 1) 44 #[.slice none 0 0, .slice none 0 0, .slice none 0 0, .int .i64 0] → Below w.heap.size w x → R = (([], [], [], 0), 0, false) → StepQ R w (.returned (.tuple #[.agg #[.slice none 0 0, .slice none 0 0, .slice none 0 0, .int .i64 0], .int .i64 0, .bool false])) ((((x.setCell ⟨w.heap.size + 1, 0, none⟩ (.slice none 0 0)).setCell ⟨w.heap.size + 1, 1, none⟩ (.slice none 0 0)).setCell ⟨w.heap.size + 1, 2, none⟩ (.slice none 0 0)).setCell ⟨w.heap.size + 1, 3, none⟩ (.int .i64 0)) := by
    intro x hx hbx e
    subst e
    have ho : Out (w.heap.size + 1) (w.heap.size + 2) x ((((x.setCell ⟨w.heap.size + 1, 0, none⟩ (.slice none 0 0)).setCell ⟨w.heap.size + 1, 1, none⟩ (.slice none 0 0)).setCell ⟨w.heap.size + 1, 2, none⟩ (.slice none 0 0)).setCell ⟨w.heap.size + 1, 3, none⟩ (.int .i64 0)) := out_set (out_set (out_set (out_set (Out.refl _ _ _) (by omega)) (by omega)) (by omega)) (by omega)
    have hbf := hbx.trans (ho.below (by omega) hbx.size)
    exact ⟨none, 0, none, 0, none, 0, rfl, own_none _ _ _ hbf.size (Nat.le_refl _), own_none _ _ _ hbf.size (Nat.le_refl _), own_none _ _ _ hbf.size (Nat.le_refl _), hbf⟩
  have cz : ∀ (x : World), BlkIs x (w.heap.size + 1) 44 #[.slice none 0 0, .slice none 0 0, .slice none 0 0, .int .i64 0] → (x.cell? ⟨w.heap.size + 1, 0, none⟩ = some (.slice none 0 0) ∧ x.cell? ⟨w.heap.size + 1, 1, none⟩ = some (.slice none 0 0) ∧ x.cell? ⟨w.heap.size + 1, 2, none⟩ = some (.slice none 0 0) ∧ x.cell? ⟨w.heap.size + 1, 3, none⟩ = some (.int .i64 0)) := fun x h => ⟨h.cell 0, h.cell 1, h.cell 2, h.cell 3⟩
  have HFIN := Lib.hid fin
  have HCZ := Lib.hid cz
  clear fin cz
  cases hv : vcfB cs vs zs st p with
  | false =>
    have HN := Lib.hid (HR.out.symm.trans (stepR_no hv))
    have HIS := Lib.hid (l07Is_c C k cc w.heap.size cs _ HC0.out hb0.size hk)
    have HCF := Lib.hid (l07Config_c w.heap.size A n c vs A' m c' zs A2 q c2 st p w.heap.size _ hP H0.out H1.out H2.out hn hm hq)
    cases hcb : codeB cs with
    | false =>
      have HIS0 := HIS.out
      rw [hcb] at HIS0
      have HIS2 := Lib.hid HIS0
      clear HIS HIS0 HCF hcb hv hc h0 h1 h2 HC0 H0 H1 H2
      go_enter Try.func26, Try.ntmps26
      go_wp2_with fail
      generalize (w.alloc (.cells #[.slice A n c, .slice A' m c', .slice A2 q c2, .int .i64 p] 44)).alloc (.cells #[.slice none 0 0, .slice none 0 0, .slice none 0 0, .int .i64 0] 44) = W at hb0 hP hR hsz HIS2 ⊢
      refine HIS2.out.mono ?_
      rintro e w1 ⟨rfl, hb1⟩
      have hR1 := hR.next hb1
      obtain ⟨z0, z1, z2, z3⟩ := HCZ.out w1 hR1
      have y0 := hR1.frozen 0
      have y1 := hR1.frozen 1
      have y2 := hR1.frozen 2
      have y3 := hR1.frozen 3
      clear hP hR HIS2
      go_wp2_with fail
      have hR5 := (((hR1.set 0 (.slice none 0 0)).set 1 (.slice none 0 0)).set 2 (.slice none 0 0)).set 3 (.int .i64 0)
      have s0 : ((((w1.setCell ⟨w.heap.size + 1, 0, none⟩ (.slice none 0 0)).setCell ⟨w.heap.size + 1, 1, none⟩ (.slice none 0 0)).setCell ⟨w.heap.size + 1, 2, none⟩ (.slice none 0 0)).setCell ⟨w.heap.size + 1, 3, none⟩ (.int .i64 0)).cell? ⟨w.heap.size + 1, 0, none⟩ = some (.slice none 0 0) := by rw [hR5.cell 0]; simp
      have s1 : ((((w1.setCell ⟨w.heap.size + 1, 0, none⟩ (.slice none 0 0)).setCell ⟨w.heap.size + 1, 1, none⟩ (.slice none 0 0)).setCell ⟨w.heap.size + 1, 2, none⟩ (.slice none 0 0)).setCell ⟨w.heap.size + 1, 3, none⟩ (.int .i64 0)).cell? ⟨w.heap.size + 1, 1, none⟩ = some (.slice none 0 0) := by rw [hR5.cell 1]; simp
      have s2 : ((((w1.setCell ⟨w.heap.size + 1, 0, none⟩ (.slice none 0 0)).setCell ⟨w.heap.size + 1, 1, none⟩ (.slice none 0 0)).setCell ⟨w.heap.size + 1, 2, none⟩ (.slice none 0 0)).setCell ⟨w.heap.size + 1, 3, none⟩ (.int .i64 0)).cell? ⟨w.heap.size + 1, 2, none⟩ = some (.slice none 0 0) := by rw [hR5.cell 2]; simp
      have s3 : ((((w1.setCell ⟨w.heap.size + 1, 0, none⟩ (.slice none 0 0)).setCell ⟨w.heap.size + 1, 1, none⟩ (.slice none 0 0)).setCell ⟨w.heap.size + 1, 2, none⟩ (.slice none 0 0)).setCell ⟨w.heap.size + 1, 3, none⟩ (.int .i64 0)).cell? ⟨w.heap.size + 1, 3, none⟩ = some (.int .i64 0) := by rw [hR5.cell 3]; simp
      refine bodyPost_ret (v := .tuple #[.agg #[.slice none 0 0, .slice none 0 0, .slice none 0 0, .int .i64 0], .int .i64 0, .bool false]) (by simp [results, Try.results26, go_sem, s0, s1, s2, s3]) rfl ?_
      exact HFIN.out w1 hR1 (bon hb0 hb1) HN.out
    | true =>
      have hcf : cfgB vs zs st p = false := by rw [vcfB_is hcb] at hv; exact hv
      have HIS0 := HIS.out
      rw [hcb] at HIS0
      have HIS2 := Lib.hid HIS0
      have HPB := Lib.hid hcf
      clear HIS HIS0 HCF hcb hv hc h0 h1 h2 HC0 hcf
      go_enter Try.func26, Try.ntmps26
      go_wp2_with fail
      generalize (w.alloc (.cells #[.slice A n c, .slice A' m c', .slice A2 q c2, .int .i64 p] 44)).alloc (.cells #[.slice none 0 0, .slice none 0 0, .slice none 0 0, .int .i64 0] 44) = W at hb0 hP hR hsz HIS2 H0 H1 H2 ⊢
      refine HIS2.out.mono ?_
      rintro e w1 ⟨rfl, hb1⟩
      have hR1 := hR.next hb1
      have HCF0 := l07Config_c w.heap.size A n c vs A' m c' zs A2 q c2 st p w.heap.size w1 (hP.next hb1) (H0.out.next hb1 (by omega)) (H1.out.next hb1 (by omega)) (H2.out.next hb1 (by omega)) hn hm hq
      rw [HPB.out] at HCF0
      have HCF := Lib.hid HCF0
      obtain ⟨z0, z1, z2, z3⟩ := HCZ.out w1 hR1
      have y0 := hR1.frozen 0
      have y1 := hR1.frozen 1
      have y2 := hR1.frozen 2
      have y3 := hR1.frozen 3
      clear hP hR HIS2 HCF0
      go_wp2_with fail
      refine HCF.out.mono ?_
      rintro e w2 ⟨rfl, rfl⟩
      go_wp2_with fail
      have hR5 := (((hR1.set 0 (.slice none 0 0)).set 1 (.slice none 0 0)).set 2 (.slice none 0 0)).set 3 (.int .i64 0)
      have s0 : ((((w1.setCell ⟨w.heap.size + 1, 0, none⟩ (.slice none 0 0)).setCell ⟨w.heap.size + 1, 1, none⟩ (.slice none 0 0)).setCell ⟨w.heap.size + 1, 2, none⟩ (.slice none 0 0)).setCell ⟨w.heap.size + 1, 3, none⟩ (.int .i64 0)).cell? ⟨w.heap.size + 1, 0, none⟩ = some (.slice none 0 0) := by rw [hR5.cell 0]; simp
      have s1 : ((((w1.setCell ⟨w.heap.size + 1, 0, none⟩ (.slice none 0 0)).setCell ⟨w.heap.size + 1, 1, none⟩ (.slice none 0 0)).setCell ⟨w.heap.size + 1, 2, none⟩ (.slice none 0 0)).setCell ⟨w.heap.size + 1, 3, none⟩ (.int .i64 0)).cell? ⟨w.heap.size + 1, 1, none⟩ = some (.slice none 0 0) := by rw [hR5.cell 1]; simp
      have s2 : ((((w1.setCell ⟨w.heap.size + 1, 0, none⟩ (.slice none 0 0)).setCell ⟨w.heap.size + 1, 1, none⟩ (.slice none 0 0)).setCell ⟨w.heap.size + 1, 2, none⟩ (.slice none 0 0)).setCell ⟨w.heap.size + 1, 3, none⟩ (.int .i64 0)).cell? ⟨w.heap.size + 1, 2, none⟩ = some (.slice none 0 0) := by rw [hR5.cell 2]; simp
      have s3 : ((((w1.setCell ⟨w.heap.size + 1, 0, none⟩ (.slice none 0 0)).setCell ⟨w.heap.size + 1, 1, none⟩ (.slice none 0 0)).setCell ⟨w.heap.size + 1, 2, none⟩ (.slice none 0 0)).setCell ⟨w.heap.size + 1, 3, none⟩ (.int .i64 0)).cell? ⟨w.heap.size + 1, 3, none⟩ = some (.int .i64 0) := by rw [hR5.cell 3]; simp
      refine bodyPost_ret (v := .tuple #[.agg #[.slice none 0 0, .slice none 0 0, .slice none 0 0, .int .i64 0], .int .i64 0, .bool false]) (by simp [results, Try.results26, go_sem, s0, s1, s2, s3]) rfl ?_
      exact HFIN.out w1 hR1 (bon hb0 hb1) HN.out
  | true =>
    obtain ⟨hcode, v⟩ := vcfB_parts hv
    have HN := Lib.hid (HR.out.symm.trans (stepR_yes hv))
    have hcf : cfgB vs zs st p = true := by rw [vcfB_is hcode] at hv; exact hv
    obtain rfl : n = 4 := by rw [← h0.1]; exact v.lv
    obtain rfl : m = 8 := by rw [← h1.1]; exact v.lz
    obtain rfl : q = st.length := h2.1.symm
    have bv := behN_valid hcode v
    have hbl1 := bv.lv
    have hbl2 := bv.lz
    have HIS0 := l07Is_c C k cc w.heap.size cs _ HC0.out hb0.size hk
    rw [hcode] at HIS0
    have HIS2 := Lib.hid HIS0
    have HPB := Lib.hid hcf
    have HV := Lib.hid v
    have HCODE := Lib.hid hcode
    clear HIS0 hv hc h0 h1 h2 hcf v hcode bv HFIN
    go_enter Try.func26, Try.ntmps26
    go_wp2_with fail
    generalize (w.alloc (.cells #[.slice A 4 c, .slice A' 8 c', .slice A2 st.length c2, .int .i64 p] 44)).alloc (.cells #[.slice none 0 0, .slice none 0 0, .slice none 0 0, .int .i64 0] 44) = W at hb0 hP hR hsz HIS2 HC0 H0 H1 H2 ⊢
    refine HIS2.out.mono ?_
    rintro e w1 ⟨rfl, hb1⟩
    have hs1 := hb1.size
    have HCF0 := l07Config_c w.heap.size A 4 c vs A' 8 c' zs A2 st.length c2 st p w.heap.size w1 (hP.next hb1) (H0.out.next hb1 (by omega)) (H1.out.next hb1 (by omega)) (H2.out.next hb1 (by omega)) hn hm hq
    rw [HPB.out] at HCF0
    have HCF := Lib.hid HCF0
    have HNX := Lib.hid (l07Next_c w.heap.size A c vs A' c' zs A2 c2 st C k cc cs w.heap.size w1 p (hP.next hb1) (H0.out.next hb1 (by omega)) (H1.out.next hb1 (by omega)) (H2.out.next hb1 (by omega)) (HC0.out.next hb1 (by omega)) (by omega) hq2 HCODE.out HV.out)
    obtain ⟨⟨v4, z8, s6, pp⟩, hbe⟩ : ∃ x, Hid (behN cs (vs, zs, st, p) = x) := ⟨_, rfl⟩
    obtain ⟨oo, hoo⟩ : ∃ x, Hid (outN cs st p = x) := ⟨_, rfl⟩
    have HN2 : Hid (R = ((v4, z8, s6, pp), oo, true)) := HN.out.trans (by rw [hbe.out, hoo.out])
    have HNX2 : Hid (Calls Try.prog 62 #[.slice C k cc, .pointer (some ⟨w.heap.size, 0, none⟩)] w1 (NextR v4 z8 s6 pp oo w1)) := by have := HNX.out; rw [hbe.out, hoo.out] at this; exact this
    rw [hbe.out] at hbl1 hbl2
    have HB1 := Lib.hid (show v4.length = 4 from hbl1)
    have HB2 := Lib.hid (show z8.length = 8 from hbl2)
    clear HCF0 HNX hbe hoo hbl1 hbl2 HN HR
    go_wp2_with fail
    refine HCF.out.mono ?_
    rintro e w2 ⟨rfl, rfl⟩
    go_wp2_with fail
    refine HNX2.out.mono ?_
    rintro e w3 ⟨X, cx, X', cx', X2, cx2, rfl, o1, o2, o3, hb3⟩
    have hR1 := (hR.next hb1).next hb3
    have hb4 := bnew w3 (.cells #[.slice X 4 cx, .slice X' 8 cx', .slice X2 s6.length cx2, .int .i64 pp] 44)
    have hN : BlkIs (w3.alloc (.cells #[.slice X 4 cx, .slice X' 8 cx', .slice X2 s6.length cx2, .int .i64 pp] 44)) w3.heap.size 44 #[.slice X 4 cx, .slice X' 8 cx', .slice X2 s6.length cx2, .int .i64 pp] := blk_new _ _ _ _ rfl
    have hR4 := hR1.next hb4
    have HO1 := Lib.hid (o1.next hb4)
    have HO2 := Lib.hid (o2.next hb4)
    have HO3 := Lib.hid (o3.next hb4)
    have hs3 := hb3.size
    have hs4 := hb4.size
    have hbw := bon (bon (bon hb0 hb1) hb3) hb4
    clear HCF HNX2 o1 o2 o3 hP hR hR1 hb1 hb3 hb4 HIS2
    have n0 : (w3.alloc (.cells #[.slice X 4 cx, .slice X' 8 cx', .slice X2 s6.length cx2, .int .i64 pp] 44)).cell? ⟨w3.heap.size, 0, none⟩ = some (.slice X 4 cx) := hN.cell 0
    have n1 : (w3.alloc (.cells #[.slice X 4 cx, .slice X' 8 cx', .slice X2 s6.length cx2, .int .i64 pp] 44)).cell? ⟨w3.heap.size, 1, none⟩ = some (.slice X' 8 cx') := hN.cell 1
    have n2 : (w3.alloc (.cells #[.slice X 4 cx, .slice X' 8 cx', .slice X2 s6.length cx2, .int .i64 pp] 44)).cell? ⟨w3.heap.size, 2, none⟩ = some (.slice X2 s6.length cx2) := hN.cell 2
    have n3 : (w3.alloc (.cells #[.slice X 4 cx, .slice X' 8 cx', .slice X2 s6.length cx2, .int .i64 pp] 44)).cell? ⟨w3.heap.size, 3, none⟩ = some (.int .i64 pp) := hN.cell 3
    obtain ⟨z0, z1, z2, z3⟩ := HCZ.out _ hR4
    have y0 := hR4.frozen 0
    have y1 := hR4.frozen 1
    have y2 := hR4.frozen 2
    have y3 := hR4.frozen 3
    go_wp2_with fail
    have hR5 := (((hR4.set 0 (.slice X 4 cx)).set 1 (.slice X' 8 cx')).set 2 (.slice X2 s6.length cx2)).set 3 (.int .i64 pp)
    have ho5 : Out (w.heap.size + 1) (w.heap.size + 2) (w3.alloc (.cells #[.slice X 4 cx, .slice X' 8 cx', .slice X2 s6.length cx2, .int .i64 pp] 44)) (((((w3.alloc (.cells #[.slice X 4 cx, .slice X' 8 cx', .slice X2 s6.length cx2, .int .i64 pp] 44)).setCell ⟨w.heap.size + 1, 0, none⟩ (.slice X 4 cx)).setCell ⟨w.heap.size + 1, 1, none⟩ (.slice X' 8 cx')).setCell ⟨w.heap.size + 1, 2, none⟩ (.slice X2 s6.length cx2)).setCell ⟨w.heap.size + 1, 3, none⟩ (.int .i64 pp)) := out_set (out_set (out_set (out_set (Out.refl _ _ _) (by omega)) (by omega)) (by omega)) (by omega)
    have s0 : (((((w3.alloc (.cells #[.slice X 4 cx, .slice X' 8 cx', .slice X2 s6.length cx2, .int .i64 pp] 44)).setCell ⟨w.heap.size + 1, 0, none⟩ (.slice X 4 cx)).setCell ⟨w.heap.size + 1, 1, none⟩ (.slice X' 8 cx')).setCell ⟨w.heap.size + 1, 2, none⟩ (.slice X2 s6.length cx2)).setCell ⟨w.heap.size + 1, 3, none⟩ (.int .i64 pp)).cell? ⟨w.heap.size + 1, 0, none⟩ = some (.slice X 4 cx) := by rw [hR5.cell 0]; simp
    have s1 : (((((w3.alloc (.cells #[.slice X 4 cx, .slice X' 8 cx', .slice X2 s6.length cx2, .int .i64 pp] 44)).setCell ⟨w.heap.size + 1, 0, none⟩ (.slice X 4 cx)).setCell ⟨w.heap.size + 1, 1, none⟩ (.slice X' 8 cx')).setCell ⟨w.heap.size + 1, 2, none⟩ (.slice X2 s6.length cx2)).setCell ⟨w.heap.size + 1, 3, none⟩ (.int .i64 pp)).cell? ⟨w.heap.size + 1, 1, none⟩ = some (.slice X' 8 cx') := by rw [hR5.cell 1]; simp
    have s2 : (((((w3.alloc (.cells #[.slice X 4 cx, .slice X' 8 cx', .slice X2 s6.length cx2, .int .i64 pp] 44)).setCell ⟨w.heap.size + 1, 0, none⟩ (.slice X 4 cx)).setCell ⟨w.heap.size + 1, 1, none⟩ (.slice X' 8 cx')).setCell ⟨w.heap.size + 1, 2, none⟩ (.slice X2 s6.length cx2)).setCell ⟨w.heap.size + 1, 3, none⟩ (.int .i64 pp)).cell? ⟨w.heap.size + 1, 2, none⟩ = some (.slice X2 s6.length cx2) := by rw [hR5.cell 2]; simp
    have s3 : (((((w3.alloc (.cells #[.slice X 4 cx, .slice X' 8 cx', .slice X2 s6.length cx2, .int .i64 pp] 44)).setCell ⟨w.heap.size + 1, 0, none⟩ (.slice X 4 cx)).setCell ⟨w.heap.size + 1, 1, none⟩ (.slice X' 8 cx')).setCell ⟨w.heap.size + 1, 2, none⟩ (.slice X2 s6.length cx2)).setCell ⟨w.heap.size + 1, 3, none⟩ (.int .i64 pp)).cell? ⟨w.heap.size + 1, 3, none⟩ = some (.int .i64 pp) := by rw [hR5.cell 3]; simp
    have hb5 := hbw.trans (ho5.below (by omega) hbw.size)
    generalize (((((w3.alloc (.cells #[.slice X 4 cx, .slice X' 8 cx', .slice X2 s6.length cx2, .int .i64 pp] 44)).setCell ⟨w.heap.size + 1, 0, none⟩ (.slice X 4 cx)).setCell ⟨w.heap.size + 1, 1, none⟩ (.slice X' 8 cx')).setCell ⟨w.heap.size + 1, 2, none⟩ (.slice X2 s6.length cx2)).setCell ⟨w.heap.size + 1, 3, none⟩ (.int .i64 pp)) = W5 at s0 s1 s2 s3 ho5 hb5 ⊢
    refine bodyPost_ret (v := .tuple #[.agg #[.slice X 4 cx, .slice X' 8 cx', .slice X2 s6.length cx2, .int .i64 pp], .int .i64 oo, .bool true]) (by simp [results, Try.results26, go_sem, s0, s1, s2, s3]) rfl ?_
    have HOF1 := HO1.out.out ho5 (by left; omega)
    have HOF2 := HO2.out.out ho5 (by left; omega)
    have HOF3 := HO3.out.out ho5 (by left; omega)
    have e1 := HB1.out
    have e2 := HB2.out
    have hsF := ho5.size
    rw [HN2.out]
    refine ⟨X, cx, X', cx', X2, cx2, by show _ = Ending.returned (.tuple #[.agg #[.slice X v4.length cx, .slice X' z8.length cx', .slice X2 s6.length cx2, .int .i64 pp], .int .i64 oo, .bool true]); rw [e1, e2], ?_, ?_, ?_, hb5⟩
    · show OwnL _ _ _ X v4.length cx v4
      rw [e1]; exact (HOF1.less (by omega)).wide (by omega) (Nat.le_refl _)
    · show OwnL _ _ _ X' z8.length cx' z8
      rw [e2]; exact (HOF2.less (by omega)).wide (by omega) (Nat.le_refl _)
    · exact (HOF3.less (by omega)).wide (by omega) (Nat.le_refl _)
end Go.Proofs.Ytnfapodeifpeoaa
