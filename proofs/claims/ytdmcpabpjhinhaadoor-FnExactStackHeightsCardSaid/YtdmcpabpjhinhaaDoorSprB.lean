/-
  spread at stackBehind: heights, or a panic. Conditions: valid code; the program's own error lies in its variable.
-/
import Derived.Test.YtdmcpabpjhinhaaDoorPan
namespace Go.Proofs.YtdmcpabpjhinhaaDoor
set_option linter.unusedVariables false
open Go.RowKit

/-- The height behind an instruction, where the stack fits. -/
def bhH (x : Int × Int) (h : Int) : Option Int := if fitB x.1 h = true then some (h - popB x.1 + pushB x.1) else none
/-- What holds of heights throughout, or N. -/
structure GoesOr (xs : List (Int × Int)) (I : List Int → Prop) (N : Prop) : Prop where
  fit : ∀ (k : Nat) (x : Int × Int) (K : List Int), xs[k]? = some x → I K → K.getD k 0 ≠ -1 → (-10 ≤ K.getD k 0 ∧ K.getD k 0 ≤ 10) ∧ (fitB x.1 (K.getD k 0) = false → N)
  put : ∀ (k : Nat) (x : Int × Int) (K : List Int), xs[k]? = some x → I K → K.getD k 0 ≠ -1 → fitB x.1 (K.getD k 0) = true → ∀ t ∈ tgt1 x.1 x.2 k, ∀ L, I L → Ext K L →
    ((L.getD t.toNat 0 = -1 ∨ L.getD t.toNat 0 = K.getD k 0 - popB x.1 + pushB x.1) → I (L.set t.toNat (K.getD k 0 - popB x.1 + pushB x.1))) ∧ (¬ (L.getD t.toNat 0 = -1 ∨ L.getD t.toNat 0 = K.getD k 0 - popB x.1 + pushB x.1) → N)

set_option maxRecDepth 100000 in
set_option maxHeartbeats 4000000 in
theorem spreadB_c (tp : TypeId) (pv : Value) (N : Prop) (A : Option Addr) (n c B : Nat) (xs : List (Int × Int)) (w : World) (h : InC w B A n xs) (hB : B ≤ w.heap.size) (hv : codeB xs = true) (I : List Int → Prop) (hb : GoesOr xs I N) (hI : I heights0) (hs : Stuck tp pv w) :
    Calls Tryd.prog 20 #[.slice A n c, .func (.func 26) #[] #[]] w fun e w' => (∃ K, e = .returned (.agg (K.map ic).toArray) ∧ SprTo xs bhH I K ∧ Below w.heap.size w w') ∨ (e = .panicked [{ v := .iface tp pv, recovered := false }] ∧ N ∧ Below w.heap.size w w') := by
  have HST := Lib.hid hs
  clear hs
  have hxn : xs.length = n := h.1
  have hp := codeB_parts hv
  have hn80 : 1 ≤ n ∧ n ≤ 80 := by omega
  have HI := Lib.hid h
  have HT := Lib.hid (tgt_in hv)
  have HV := Lib.hid hv
  have HG := Lib.hid hb
  have HI0 := Lib.hid hI
  have hM0 : SpM w (((w.alloc (.cells Tryd.zeroCells42 42)).alloc (.cells Tryd.zeroCells42 42)).alloc (.cells Tryd.zeroCells42 42)) (List.replicate 81 0) (List.replicate 81 0) := by
    rw [zero42]
    have b0 := bnew w (.cells (hc (List.replicate 81 0)) 42)
    have b1 := bnew (w.alloc (.cells (hc (List.replicate 81 0)) 42)) (.cells (hc (List.replicate 81 0)) 42)
    have b2 := bnew ((w.alloc (.cells (hc (List.replicate 81 0)) 42)).alloc (.cells (hc (List.replicate 81 0)) 42)) (.cells (hc (List.replicate 81 0)) 42)
    have r0 := ((ArrIs.new w (K := List.replicate 81 0) (by simp)).next b1).next b2
    have r1 := (ArrIs.new (w.alloc (.cells (hc (List.replicate 81 0)) 42)) (K := List.replicate 81 0) (by simp)).next b2
    have r2 := ArrIs.new ((w.alloc (.cells (hc (List.replicate 81 0)) 42)).alloc (.cells (hc (List.replicate 81 0)) 42)) (K := List.replicate 81 0) (by simp)
    rw [World.size_alloc] at r1
    rw [World.size_alloc, World.size_alloc] at r2
    exact ⟨r0, r1, r2, bon (bon b0 b1) b2⟩
  clear h hp hv hb hI
  go_enter Tryd.func20, Tryd.ntmps20
  go_upto_region 3 with fail
  generalize (((w.alloc (.cells Tryd.zeroCells42 42)).alloc (.cells Tryd.zeroCells42 42)).alloc (.cells Tryd.zeroCells42 42)) = W at hM0 ⊢
  go_loopw [13] (fun i wr => ∃ j : Nat, j ≤ 81 ∧ i = .int .i64 j ∧ SpM w wr (fstH j) (List.replicate 81 0)) (fun i _ => 81 - (intOf i).toNat)
  case atStart => exact ⟨0, by omega, rfl, hM0⟩
  case round =>
    clear hM0
    obtain ⟨j, hj, rfl, hM⟩ := hrel
    by_cases hlt : j < 81
    · have z1 := hM.known.at_ hlt
      have f1 := hM.known.frozen j
      have hM1 := hM.set j (-1)
      rw [fstH_set hlt] at hM1
      have HM1 := Lib.hid hM1
      clear hM hM1
      go_wp2_with fail
      go_roundw
      case rel => exact ⟨j + 1, by omega, by go_num, HM1.out⟩
      case measure => simp [intOf]; omega
    · have ej : Hid (j = 81) := by show j = 81; omega
      have hlt' : ¬ (j : Int) < 81 := by omega
      rw [ej.out] at hM
      have z0 := hM.known.at_ (i := 0) (by omega)
      have f0 := hM.known.frozen 0
      have hM1 := hM.set 0 0
      rw [fstH_end] at hM1
      clear hM hlt hj ej
      go_upto_region 8 with fail
      generalize wr.setCell ⟨w.heap.size + 1, 0, none⟩ (.int .i64 0) = W1 at hM1 ⊢
      clear z0 f0
      have hS0 : SprAt xs bhH I heights0 (List.replicate 81 0) := SprAt.init HI0.out
      go_loopw [26] (fun _ wr => ∃ K Bf, SprAt xs bhH I K Bf ∧ SpM w wr K Bf) (fun _ wr => leftH (readH wr (w.heap.size + 1)) (readH wr (w.heap.size + 1 + 1)))
      case atStart => exact ⟨_, _, hS0, hM1⟩
      case round =>
        clear hM1 hS0
        obtain ⟨K, Bf, hS, hM⟩ := hrel
        have hr1 := readH_is hM.known
        have hr2 := readH_is hM.before
        by_cases hKB : K = Bf
        · subst hKB
          have hD := Lib.hid hS.done
          have e1 : (K == K) = true := by simp
          have e2 := arr_loop wr K K hM.known.2 hM.known.2
          have hR := (hM.res.store hM.known.2)
          have hg := grown_setCells w.heap.size (K.map ic) 0 wr
          have hbw : Below w.heap.size w (wr.setCells w.heap.size 0 (K.map ic)) := hM.below.grown hg hM.below.size (fun k hk => by have := Option.some.inj hk; omega)
          have k1 := hM.known
          have k2 := hM.before
          have k0 := hM.res
          clear hM hS hr1 hr2
          go_wp2_with (first | (refine load_hc rfl _ rfl (w.heap.size + 1) rfl k1 ?_) | (refine load_hc rfl _ rfl (w.heap.size + 1 + 1) rfl k2 ?_) | (refine store_hc rfl _ _ rfl w.heap.size rfl rfl k0 k1.2 ?_))
          refine bodyPost_ret (results_hc rfl _ _ w.heap.size K rfl hR) rfl ?_
          exact .inl ⟨K, rfl, hD.out, hbw⟩
        · have e1 : (K == Bf) = false := by simp [hKB]
          have e2 := arr_loop wr K Bf hM.known.2 hM.before.2
          have hM1 := hM.save
          have k1 := hM.known
          have k2 := hM.before
          have HS := Lib.hid hS
          have hl81 := hS.len
          have hSw0 : SwpTo xs bhH I K 0 K := SwpTo.nil hS.inv hS.len
          clear hM hS
          go_upto_region 11 with (first | (refine load_hc rfl _ rfl (w.heap.size + 1) rfl k1 ?_) | (refine load_hc rfl _ rfl (w.heap.size + 1 + 1) rfl k2 ?_) | (refine store_hc rfl _ _ rfl (w.heap.size + 1 + 1) rfl rfl k2 k1.2 ?_))
          generalize wr.setCells (w.heap.size + 1 + 1) 0 (K.map ic) = W2 at hM1 ⊢
          clear k1 k2 e2
          go_loopw [26] (fun i wr => ∃ (j : Nat) (L : List Int), j ≤ n ∧ i = .int .i64 j ∧ SwpTo xs bhH I K j L ∧ SpM w wr L K) (fun i _ => n - (intOf i).toNat)
          case atStart => exact ⟨0, K, Nat.zero_le _, rfl, hSw0, hM1⟩
          case round =>
            clear hM1 hSw0
            obtain ⟨j, L, hj, rfl, hSw, hM⟩ := hrel
            by_cases hlt : j < n
            · have hjx : j < xs.length := by omega
              have hx : xs[j]? = some xs[j] := List.getElem?_eq_getElem hjx
              have hIw := HI.out.next hM.below hB
              obtain ⟨bb, off, x, rfl, hbb, hx', q0, q1⟩ := hIw.at_ hlt
              obtain rfl : xs[j] = x := by rw [hx] at hx'; exact Option.some.inj hx'
              have hb3 := bnew wr (.cells #[.int .i64 xs[j].1, .int .i64 xs[j].2] 38)
              have hX : BlkIs (wr.alloc (.cells #[.int .i64 xs[j].1, .int .i64 xs[j].2] 38)) wr.heap.size 38 #[.int .i64 xs[j].1, .int .i64 xs[j].2] := blk_new _ _ _ _ rfl
              have hM2 := hM.next hb3
              have c1 := hM2.known.at_ (i := j) (by omega)
              obtain ⟨hj0, ehj⟩ : ∃ hj0, Hid (L.getD j 0 = hj0) := ⟨_, rfl⟩
              rw [ehj.out] at c1
              have HX := Lib.hid hx
              have HSW := Lib.hid hSw
              have hKN := hM.before.lt
              have hLl : L.length = 81 := hM.known.2
              clear hx' hIw hx hSw
              by_cases hun : hj0 = -1
              · subst hun
                have HSK := Lib.hid (HSW.out.skip ehj.out)
                go_wp2_with fail
                go_roundw
                case rel => exact ⟨j + 1, L, by omega, by go_num, HSK.out, hM2⟩
                case measure => simp [intOf]; omega
              · have eun : (hj0 == -1) = false := by simp; exact hun
                obtain ⟨hbnd, hnf⟩ := HG.out.fit j xs[j] L HX.out HSW.out.inv (by rw [ehj.out]; exact hun)
                rw [ehj.out] at hbnd hnf
                have hib := instrB_parts (codeB_at HV.out HX.out)
                have hop : 0 ≤ xs[j].1 ∧ xs[j].1 ≤ 11 := ⟨hib.1, hib.2.1⟩
                have HPUT := Lib.hid (HG.out.put j xs[j] L HX.out HSW.out.inv (by rw [ehj.out]; exact hun))
                rw [ehj.out] at HPUT
                have HNF := Lib.hid hnf
                clear hib hnf
                have xc0 : (wr.alloc (.cells #[.int .i64 xs[j].1, .int .i64 xs[j].2] 38)).cell? ⟨wr.heap.size, 0, none⟩ = some (.int .i64 xs[j].1) := hX.cell 0
                have xc1 : (wr.alloc (.cells #[.int .i64 xs[j].1, .int .i64 xs[j].2] 38)).cell? ⟨wr.heap.size, 1, none⟩ = some (.int .i64 xs[j].2) := hX.cell 1
                go_upto_region 14 with fail
                generalize hW3 : wr.alloc (.cells #[.int .i64 xs[j].1, .int .i64 xs[j].2] 38) = W3 at hb3 hM2 c1 xc0 xc1 hX ⊢
                clear hX
                have hj81 : (j : Int) < 81 := by omega
                by_cases hfit : fitB xs[j].1 hj0 = false
                · have HSK3 : Hid (Stuck tp pv W3.drew) := HST.out.next hM2.below.drew
                  refine wp_region_held_drew (S := fun w' => w'.cell? ⟨wr.heap.size, 0, none⟩ = some (.int .i64 xs[j].1) ∧ w'.cell? ⟨wr.heap.size, 1, none⟩ = some (.int .i64 xs[j].2) ∧ w'.cell? ⟨w.heap.size + 1, j, none⟩ = some (.int .i64 hj0)) (by kernel_rfl) ⟨xc0, xc1, c1⟩ ?_
                  intro hHeld0
                  refine wpAnyH_take (i := 0) (v := ?_) rfl (by kernel_rfl) (by kernel_rfl) (by kernel_rfl) (fun _ _ _ h => h) (Or.inl ⟨by kernel_rfl, ?_⟩) (by assumption) ?_
                  rotate_left
                  · intro w9 hS9; obtain ⟨s1, s2, s3⟩ := hS9; go_simp; (try with_reducible rfl)
                  set_option linter.unusedSimpArgs false in try simp only [Act.put, List.getElem_toArray, List.getElem_cons_succ, List.getElem_cons_zero, List.setIfInBounds_toArray, List.set_cons_zero, List.set_cons_succ]
                  refine wpAnyH_take (i := 1) (v := ?_) rfl (by kernel_rfl) (by kernel_rfl) (by kernel_rfl) (fun _ _ _ h => h) (Or.inl ⟨by kernel_rfl, ?_⟩) (by assumption) ?_
                  rotate_left
                  · intro w9 hS9; obtain ⟨s1, s2, s3⟩ := hS9; go_simp; (try with_reducible rfl)
                  set_option linter.unusedSimpArgs false in try simp only [Act.put, List.getElem_toArray, List.getElem_cons_succ, List.getElem_cons_zero, List.setIfInBounds_toArray, List.set_cons_zero, List.set_cons_succ]
                  refine wpAnyH_take (i := 2) (v := ?_) rfl (by kernel_rfl) (by kernel_rfl) (by kernel_rfl) (fun _ _ _ h => h) (Or.inl ⟨by kernel_rfl, ?_⟩) (by assumption) ?_
                  rotate_left
                  · intro w9 hS9; obtain ⟨s1, s2, s3⟩ := hS9; go_simp; (try with_reducible rfl)
                  set_option linter.unusedSimpArgs false in try simp only [Act.put, List.getElem_toArray, List.getElem_cons_succ, List.getElem_cons_zero, List.setIfInBounds_toArray, List.set_cons_zero, List.set_cons_succ]
                  refine wpAnyH_take (i := 3) (v := ?_) rfl (by kernel_rfl) (by kernel_rfl) (by kernel_rfl) (fun _ _ _ h => h) (Or.inl ⟨by kernel_rfl, ?_⟩) (by assumption) ?_
                  rotate_left
                  · intro w9 hS9; obtain ⟨s1, s2, s3⟩ := hS9; go_simp; (try with_reducible rfl)
                  set_option linter.unusedSimpArgs false in try simp only [Act.put, List.getElem_toArray, List.getElem_cons_succ, List.getElem_cons_zero, List.setIfInBounds_toArray, List.set_cons_zero, List.set_cons_succ]
                  refine wpAnyH_take (i := 4) (v := ?_) rfl (by kernel_rfl) (by kernel_rfl) (by kernel_rfl) (fun _ _ _ h => h) (Or.inl ⟨by kernel_rfl, ?_⟩) (by assumption) ?_
                  rotate_left
                  · intro w9 hS9; obtain ⟨s1, s2, s3⟩ := hS9; go_simp; (try with_reducible rfl)
                  set_option linter.unusedSimpArgs false in try simp only [Act.put, List.getElem_toArray, List.getElem_cons_succ, List.getElem_cons_zero, List.setIfInBounds_toArray, List.set_cons_zero, List.set_cons_succ]
                  refine wpAnyH_ready (rs := [5]) (by kernel_rfl) (by simp) ?_
                  refine AllReadyH.cons rfl (fun K hK => ?_) (AllReadyH.nil)
                  go_simp
                  go_wp2_with (go_at_call 26; refine (behind_no tp pv xs[j].1 xs[j].2 hj0 _ hop hfit HSK3.out).mono ?_; rintro e w1 ⟨rfl, hb1⟩)
                  exact ⟨rfl, .inr ⟨rfl, HNF.out hfit, bon hM2.below (bstep hb1)⟩⟩
                have hfit2 : fitB xs[j].1 hj0 = true := by cases e : fitB xs[j].1 hj0 with | true => rfl | false => exact absurd e hfit
                have HBK := Lib.hid (fun W => behind_ok xs[j].1 xs[j].2 hj0 W hop hfit2 hbnd)
                have HPT := Lib.hid (HPUT.out hfit2)
                obtain ⟨nh, hnh⟩ : ∃ nh, Hid (hj0 - popB xs[j].1 + pushB xs[j].1 = nh) := ⟨_, Lib.hid rfl⟩
                have HBH : Hid (bhH xs[j] (L.getD j 0) = some nh) := by show _ = _; unfold bhH; rw [ehj.out, if_pos hfit2, hnh.out]
                rw [hnh.out] at HBK HPT
                have hnz : ¬ nh = -1 := by
                  have e1 := hfit2
                  unfold fitB at e1
                  simp at e1
                  have e2 := pushB_01 xs[j].1
                  have := hnh.out; omega
                have hnz2 : (nh == -1) = false := beq_eq_false_iff_ne.2 hnz
                clear hfit hfit2 hbnd HPUT
                go_region_held3 (fun w' => w'.cell? ⟨wr.heap.size, 0, none⟩ = some (.int .i64 xs[j].1) ∧ w'.cell? ⟨wr.heap.size, 1, none⟩ = some (.int .i64 xs[j].2) ∧ w'.cell? ⟨w.heap.size + 1, j, none⟩ = some (.int .i64 hj0))
                  (first | go_keep | exact ⟨cell_on xc0 hb1, cell_on xc1 hb1, cell_on c1 hb1⟩ | fail)
                  (first | (go_at_call 26; refine (HBK.out _).mono ?_; rintro e w1 ⟨rfl, hb1⟩) | fail)
                have hM3 := hM2.next (bstep hb1)
                have hTC := Lib.hid (targetsOf_c (some ⟨bb, off, none⟩) n c B xs j xs[j] w1 (HI.out.next hM3.below hB) (Nat.le_trans hB hM3.below.size) HX.out (by omega) (codeB_at HV.out HX.out))
                clear hM2 xc0 xc1 c1 hM hb3
                go_wp2_with fail
                refine hTC.out.mono ?_
                rintro e w4 ⟨At, ct, rfl, hown, hb4⟩
                have hM4 := hM3.next hb4
                have hta := hown.all
                have htl := tgt_len xs[j].1 xs[j].2 j
                have HTI := Lib.hid (HT.out j xs[j] HX.out)
                have hP0 : PutTo I nh L [] L := PutTo.nil HSW.out.inv
                obtain ⟨ys, hys⟩ : ∃ ys, Hid (tgt1 xs[j].1 xs[j].2 j = ys) := ⟨_, Lib.hid rfl⟩
                rw [hys.out] at hown hta htl HTI HPT ⊢
                clear hTC hb4 hM3
                go_upto_region 16 with fail
                have hw1 : w.heap.size + 2 ≤ w1.heap.size := by have := hM4.known.lt; have h5 := (bstep hb1).size; rw [← hW3, World.size_alloc] at h5; have := hKN; omega
                go_loopw [45] (fun i wr => ∃ (m : Nat) (M : List Int), m ≤ ys.length ∧ i = .int .i64 m ∧ PutTo I nh L (ys.take m) M ∧ SpM w wr M K ∧ Out (w.heap.size + 1) (w.heap.size + 2) w4 wr) (fun i _ => ys.length - (intOf i).toNat)
                case atStart => exact ⟨0, L, Nat.zero_le _, rfl, hP0, hM4, Out.refl _ _ _⟩
                case round =>
                  clear hM4 hP0
                  rename World => wt
                  obtain ⟨m, M, hm, rfl, hP, hM, hO⟩ := hrel
                  by_cases hlm : m < ys.length
                  · have hrow := (hown.out hO (.inl hw1)).inn
                    obtain ⟨bt, ot, t, rfl, hbt, ht, hct⟩ := hrow.2.int_at (k := m) hlm
                    have htm : t ∈ ys := List.mem_of_getElem? ht
                    obtain ⟨t0, t1⟩ := HTI.out t htm
                    obtain ⟨a3, a4⟩ := HPT.out t htm M hP.inv hP.ext
                    by_cases a1 : ¬ (M.getD t.toNat 0 = -1 ∨ M.getD t.toNat 0 = nh)
                    · have HNN := Lib.hid (a4 a1)
                      obtain ⟨k, rfl⟩ : ∃ k : Nat, t = (k : Int) := ⟨t.toNat, by omega⟩
                      rw [Int.toNat_natCast] at a1
                      have c1 := hM.known.at_ (i := k) (by omega)
                      have hk81 : (k : Int) < 81 := by omega
                      obtain ⟨hk0, ehk⟩ : ∃ hk0, Hid (M.getD k 0 = hk0) := ⟨_, Lib.hid rfl⟩
                      rw [ehk.out] at c1 a1
                      have i7 : (hk0 == -1) = false := beq_eq_false_iff_ne.2 (fun e => a1 (.inl e))
                      have i8 : (hk0 == nh) = false := beq_eq_false_iff_ne.2 (fun e => a1 (.inr e))
                      have i9 : ¬ hk0 = -1 := fun e => a1 (.inl e)
                      have i10 : ¬ hk0 = nh := fun e => a1 (.inr e)
                      have HSK4 := Lib.hid (HST.out.next hM.below)
                      have HBM := Lib.hid hM.below
                      clear hM hO hP hrow ht htm a1 a3 a4
                      go_wp2_with fail
                      refine (insist_no tp pv wt HSK4.out).mono ?_
                      rintro e w5 ⟨rfl, rfl⟩
                      go_wp2_with fail
                      exact ⟨rfl, .inr ⟨rfl, HNN.out, HBM.out⟩⟩
                    replace a1 := Classical.not_not.1 a1
                    have a2 := a3 a1
                    clear a3 a4
                    have hP1 := Lib.hid (hP.more (by have := hM.known.2; omega) a1 a2)
                    obtain ⟨k, rfl⟩ : ∃ k : Nat, t = (k : Int) := ⟨t.toNat, by omega⟩
                    rw [Int.toNat_natCast] at a1 hP1
                    have htk : ys.take m ++ [(k : Int)] = ys.take (m + 1) := by rw [List.take_add_one, ht]; rfl
                    rw [htk] at hP1
                    have c1 := hM.known.at_ (i := k) (by omega)
                    have f1 := hM.known.frozen k
                    have hM1 := hM.set k nh
                    have hk81 : (k : Int) < 81 := by omega
                    have hO1 : Out (w.heap.size + 1) (w.heap.size + 2) w4 (wt.setCell ⟨w.heap.size + 1, k, none⟩ (.int .i64 nh)) := out_set hO (by omega)
                    obtain ⟨hk0, ehk⟩ : ∃ hk0, Hid (M.getD k 0 = hk0) := ⟨_, Lib.hid rfl⟩
                    rw [ehk.out] at c1 a1
                    clear hM hO hP hrow ht htm
                    rcases a1 with rfl | a1
                    · go_wp2_with fail
                      refine (insist_yes wt).mono ?_
                      rintro e w5 ⟨⟨v, rfl⟩, rfl⟩
                      go_wp2_with fail
                      go_roundw
                      case rel => exact ⟨m + 1, _, by omega, by go_num, hP1.out, hM1, hO1⟩
                      case measure => simp [intOf]; omega
                    · rw [a1] at c1
                      clear a1
                      go_wp2_with fail
                      refine (insist_yes wt).mono ?_
                      rintro e w5 ⟨⟨v, rfl⟩, rfl⟩
                      go_wp2_with fail
                      go_roundw
                      case rel => exact ⟨m + 1, _, by omega, by go_num, hP1.out, hM1, hO1⟩
                      case measure => simp [intOf]; omega
                  · obtain rfl : m = ys.length := by omega
                    rw [List.take_length] at hP
                    have hD := Lib.hid (HSW.out.done HX.out HBH.out (by rw [hys.out]; exact hP))
                    go_wp2_with fail
                    go_roundw
                    case rel => exact ⟨j + 1, M, by omega, by go_num, hD.out, hM⟩
                    case measure => simp [intOf]; omega
            · obtain rfl : j = n := by omega
              have hN := hSw
              rw [← hxn] at hN
              have hS2 := Lib.hid (HS.out.next hN)
              have hE := hSw.ext
              go_wp2_with fail
              go_roundw
              case rel => exact ⟨L, K, hS2.out, hM⟩
              case measure => rw [hr1, hr2, readH_is hM.known, readH_is hM.before]; exact leftH_less hE hKB

end Go.Proofs.YtdmcpabpjhinhaaDoor

