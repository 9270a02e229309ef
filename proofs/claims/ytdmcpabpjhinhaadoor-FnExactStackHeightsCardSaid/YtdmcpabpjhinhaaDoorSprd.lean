/-
  Heights spread over code: the program's loops, for a function of which is known what it gives. Conditions: valid code.
-/
import Derived.Test.YtdmcpabpjhinhaaDoorReachP
import Derived.Test.YtdmcpabpjhinhaaDoorArr
import Derived.Test.YtdmcpabpjhinhaaDoorQue
import Derived.Test.YtdmcpabpjhinhaaDoorTarg
import Derived.Deep.QuietTactic
import Derived.StillTailTactics
namespace Go.Proofs.YtdmcpabpjhinhaaDoor
set_option linter.unusedVariables false
open Go.RowKit

theorem insist_yes (w : World) : Calls Tryd.prog 27 #[.bool true] w fun e w' => (∃ v, e = .returned v) ∧ w' = w := by
  go_enter Tryd.func27, Tryd.ntmps27
  go_wp2_with fail
  go_end0
  exact ⟨⟨_, rfl⟩, rfl⟩
theorem always_c (op a h : Int) (w : World) : Calls Tryd.prog 21 #[.agg #[.int .i64 op, .int .i64 a], .int .i64 h] w fun e w' => e = .returned (.int .i64 0) ∧ Below w.heap.size w w' := by
  go_enter Tryd.func21, Tryd.ntmps21
  go_wp2_with fail
  go_ret
  exact ⟨rfl, bnew _ _⟩

/-- The numbers of a block, as memory tells. -/
def readH (w : World) (g : Nat) : List Int := match w.heap[g]? with
  | some (.cells cs _ _) => cs.toList.map fun u => match u with | .int _ x => x | _ => 0
  | _ => []
theorem readH_is {w : World} {g : Nat} {K : List Int} (h : ArrIs w g K) : readH w g = K := by
  unfold readH
  rw [h.1]
  show ((hc K).toList.map _) = K
  unfold hc
  rw [List.map_map]
  exact (List.map_congr_left (fun x _ => rfl)).trans (List.map_id K)
/-- What spread holds in memory: its result, the heights, those before. -/
structure SpM (wc W : World) (K Bf : List Int) : Prop where
  res : ArrIs W wc.heap.size (List.replicate 81 0)
  known : ArrIs W (wc.heap.size + 1) K
  before : ArrIs W (wc.heap.size + 1 + 1) Bf
  below : Below wc.heap.size wc W
section
variable {wc W W' : World} {K Bf : List Int}
theorem SpM.next (h : SpM wc W K Bf) (hb : Below W.heap.size W W') : SpM wc W' K Bf := ⟨h.res.next hb, h.known.next hb, h.before.next hb, bon h.below hb⟩
theorem SpM.set (h : SpM wc W K Bf) (i : Nat) (v : Int) : SpM wc (W.setCell ⟨wc.heap.size + 1, i, none⟩ (.int .i64 v)) (K.set i v) Bf := by
  have hg := only_set (w := W) (g := wc.heap.size + 1) (i := i) (x := .int .i64 v)
  exact ⟨h.res.other hg (by omega), h.known.set i v, h.before.other hg (by omega), h.below.setCell (p := ⟨wc.heap.size + 1, i, none⟩) (by show wc.heap.size ≤ wc.heap.size + 1; omega) _⟩
theorem SpM.save (h : SpM wc W K Bf) : SpM wc (W.setCells (wc.heap.size + 1 + 1) 0 (K.map ic)) K K := by
  have hg := grown_setCells (wc.heap.size + 1 + 1) (K.map ic) 0 W
  exact ⟨h.res.other hg (by omega), h.known.other hg (by omega), h.before.store h.known.2, h.below.grown hg h.below.size (fun k hk => by have := Option.some.inj hk; omega)⟩
end
theorem load_hc {ops : Array Oper} {rest : List Oper} {op : Oper} {a : Act} {w : World} {Q : Exit → Act → World → Prop} {K : List Int} (hgd : op.guard = none) (x : Operand) (ho : op.op = .load 42 x)
    (b : Nat) (hx : a.eval x = .pointer (some ⟨b, 0, none⟩)) (hB : ArrIs w b K) (h : wpList Tryd.prog ops Q rest (a.put op.dst (.agg (K.map ic).toArray)) w) : wpList Tryd.prog ops Q (op :: rest) a w :=
  wpList_load_mid hgd 42 x ho b 0 hx (K.map ic) _ hB.range Tryd.underlying42 rfl (by rw [List.length_map, hB.2]; exact infoArr) h
theorem store_hc {ops : Array Oper} {rest : List Oper} {op : Oper} {a : Act} {w : World} {Q : Exit → Act → World → Prop} {K L : List Int} (hgd : op.guard = none) (x y : Operand) (ho : op.op = .store 42 x y)
    (b : Nat) (hx : a.eval x = .pointer (some ⟨b, 0, none⟩)) (hy : a.eval y = .agg (L.map ic).toArray) (hB : ArrIs w b K) (hl : L.length = 81) (h : wpList Tryd.prog ops Q rest (a.put op.dst undef) (w.setCells b 0 (L.map ic))) : wpList Tryd.prog ops Q (op :: rest) a w :=
  wpList_store_mid hgd 42 x y ho b 0 (L.map ic).toArray hx hy (by rw [List.size_toArray, List.length_map, hl]; exact hB.there) (by rw [List.size_toArray, List.length_map, hl]; exact infoArr) (all_oneCell_toArray (hc_cells L)) h
theorem results_hc {fn : Func} {p : Tmp} (h : fn.results = #[.cell p 42]) (tmps : Array Value) (w : World) (g : Nat) (K : List Int)
    (hp : tmps.getD p undef = .pointer (some ⟨g, 0, none⟩)) (hg : ArrIs w g K) : (results fn tmps).run Tryd.prog w = .ok (.agg (K.map ic).toArray) w := by
  have hp' : tmps[p]?.getD undef = .pointer (some ⟨g, 0, none⟩) := by simpa using hp
  simp [results, h, hp', asAddr, run_loadVar_mid w g 0 42 (K.map ic) _ hg.range Tryd.underlying42 rfl (by rw [List.length_map, hg.2]; exact infoArr)]
def fstH (j : Nat) : List Int := List.replicate j (-1) ++ List.replicate (81 - j) 0
theorem fstH_set {j : Nat} (h : j < 81) : (fstH j).set j (-1) = fstH (j + 1) := by
  unfold fstH
  rw [List.set_append_right _ _ (by simp), List.length_replicate, Nat.sub_self, show 81 - j = (81 - (j + 1)) + 1 by omega, List.replicate_succ, List.set_cons_zero, List.replicate_succ', List.append_assoc]
  rfl
theorem fstH_end : (fstH 81).set 0 0 = heights0 := by decide
theorem zero42 : Tryd.zeroCells42 = hc (List.replicate 81 0) := by kernel_rfl

set_option maxRecDepth 100000 in
set_option maxHeartbeats 4000000 in
theorem spread_c (A : Option Addr) (n c B : Nat) (xs : List (Int × Int)) (w : World) (h : InC w B A n xs) (hB : B ≤ w.heap.size) (hv : codeB xs = true) (I : List Int → Prop) (hb : GoesOn xs (fun _ _ => some 0) I) (hI : I heights0) :
    Calls Tryd.prog 20 #[.slice A n c, .func (.func 21) #[] #[]] w fun e w' => ∃ K, e = .returned (.agg (K.map ic).toArray) ∧ SprTo xs (fun _ _ => some 0) I K ∧ Below w.heap.size w w' := by
  have hxn : xs.length = n := h.1
  have hp := codeB_parts hv
  have hn80 : 1 ≤ n ∧ n ≤ 80 := by omega
  have HI := Lib.hid h
  have HT := Lib.hid (tgt_in hv)
  have HV := Lib.hid hv
  have HG := Lib.hid hb
  have HI0 := Lib.hid hI
  have hM0 : SpM w (((w.alloc (.cells Tryd.zeroCells42 42)).alloc (.cells Tryd.zeroCells42 42)).alloc (.cells Tryd.zeroCells42 42)) (List.replicate 81 0) (List.replicate 81 0) := by
    rw [zero42]
    have b0 := bnew w (.cells (hc (List.replicate 81 0)) 42)
    have b1 := bnew (w.alloc (.cells (hc (List.replicate 81 0)) 42)) (.cells (hc (List.replicate 81 0)) 42)
    have b2 := bnew ((w.alloc (.cells (hc (List.replicate 81 0)) 42)).alloc (.cells (hc (List.replicate 81 0)) 42)) (.cells (hc (List.replicate 81 0)) 42)
    have r0 := ((ArrIs.new w (K := List.replicate 81 0) (by simp)).next b1).next b2
    have r1 := (ArrIs.new (w.alloc (.cells (hc (List.replicate 81 0)) 42)) (K := List.replicate 81 0) (by simp)).next b2
    have r2 := ArrIs.new ((w.alloc (.cells (hc (List.replicate 81 0)) 42)).alloc (.cells (hc (List.replicate 81 0)) 42)) (K := List.replicate 81 0) (by simp)
    rw [World.size_alloc] at r1
    rw [World.size_alloc, World.size_alloc] at r2
    exact ⟨r0, r1, r2, bon (bon b0 b1) b2⟩
  clear h hp hv hb hI
  go_enter Tryd.func20, Tryd.ntmps20
  go_upto_region 3 with fail
  generalize (((w.alloc (.cells Tryd.zeroCells42 42)).alloc (.cells Tryd.zeroCells42 42)).alloc (.cells Tryd.zeroCells42 42)) = W at hM0 ⊢
  go_loopw [13] (fun i wr => ∃ j : Nat, j ≤ 81 ∧ i = .int .i64 j ∧ SpM w wr (fstH j) (List.replicate 81 0)) (fun i _ => 81 - (intOf i).toNat)
  case atStart => exact ⟨0, by omega, rfl, hM0⟩
  case round =>
    clear hM0
    obtain ⟨j, hj, rfl, hM⟩ := hrel
    by_cases hlt : j < 81
    · have z1 := hM.known.at_ hlt
      have f1 := hM.known.frozen j
      have hM1 := hM.set j (-1)
      rw [fstH_set hlt] at hM1
      have HM1 := Lib.hid hM1
      clear hM hM1
      go_wp2_with fail
      go_roundw
      case rel => exact ⟨j + 1, by omega, by go_num, HM1.out⟩
      case measure => simp [intOf]; omega
    · have ej : Hid (j = 81) := by show j = 81; omega
      have hlt' : ¬ (j : Int) < 81 := by omega
      rw [ej.out] at hM
      have z0 := hM.known.at_ (i := 0) (by omega)
      have f0 := hM.known.frozen 0
      have hM1 := hM.set 0 0
      rw [fstH_end] at hM1
      clear hM hlt hj ej
      go_upto_region 8 with fail
      generalize wr.setCell ⟨w.heap.size + 1, 0, none⟩ (.int .i64 0) = W1 at hM1 ⊢
      clear z0 f0
      have hS0 : SprAt xs (fun _ _ => some 0) I heights0 (List.replicate 81 0) := SprAt.init HI0.out
      go_loopw [26] (fun _ wr => ∃ K Bf, SprAt xs (fun _ _ => some 0) I K Bf ∧ SpM w wr K Bf) (fun _ wr => leftH (readH wr (w.heap.size + 1)) (readH wr (w.heap.size + 1 + 1)))
      case atStart => exact ⟨_, _, hS0, hM1⟩
      case round =>
        clear hM1 hS0
        obtain ⟨K, Bf, hS, hM⟩ := hrel
        have hr1 := readH_is hM.known
        have hr2 := readH_is hM.before
        by_cases hKB : K = Bf
        · subst hKB
          have hD := Lib.hid hS.done
          have e1 : (K == K) = true := by simp
          have e2 := arr_loop wr K K hM.known.2 hM.known.2
          have hR := (hM.res.store hM.known.2)
          have hg := grown_setCells w.heap.size (K.map ic) 0 wr
          have hbw : Below w.heap.size w (wr.setCells w.heap.size 0 (K.map ic)) := hM.below.grown hg hM.below.size (fun k hk => by have := Option.some.inj hk; omega)
          have k1 := hM.known
          have k2 := hM.before
          have k0 := hM.res
          clear hM hS hr1 hr2
          go_wp2_with (first | (refine load_hc rfl _ rfl (w.heap.size + 1) rfl k1 ?_) | (refine load_hc rfl _ rfl (w.heap.size + 1 + 1) rfl k2 ?_) | (refine store_hc rfl _ _ rfl w.heap.size rfl rfl k0 k1.2 ?_))
          refine bodyPost_ret (results_hc rfl _ _ w.heap.size K rfl hR) rfl ?_
          exact ⟨K, rfl, hD.out, hbw⟩
        · have e1 : (K == Bf) = false := by simp [hKB]
          have e2 := arr_loop wr K Bf hM.known.2 hM.before.2
          have hM1 := hM.save
          have k1 := hM.known
          have k2 := hM.before
          have HS := Lib.hid hS
          have hl81 := hS.len
          have hSw0 : SwpTo xs (fun _ _ => some 0) I K 0 K := SwpTo.nil hS.inv hS.len
          clear hM hS
          go_upto_region 11 with (first | (refine load_hc rfl _ rfl (w.heap.size + 1) rfl k1 ?_) | (refine load_hc rfl _ rfl (w.heap.size + 1 + 1) rfl k2 ?_) | (refine store_hc rfl _ _ rfl (w.heap.size + 1 + 1) rfl rfl k2 k1.2 ?_))
          generalize wr.setCells (w.heap.size + 1 + 1) 0 (K.map ic) = W2 at hM1 ⊢
          clear k1 k2 e2
          go_loopw [26] (fun i wr => ∃ (j : Nat) (L : List Int), j ≤ n ∧ i = .int .i64 j ∧ SwpTo xs (fun _ _ => some 0) I K j L ∧ SpM w wr L K) (fun i _ => n - (intOf i).toNat)
          case atStart => exact ⟨0, K, Nat.zero_le _, rfl, hSw0, hM1⟩
          case round =>
            clear hM1 hSw0
            obtain ⟨j, L, hj, rfl, hSw, hM⟩ := hrel
            by_cases hlt : j < n
            · have hjx : j < xs.length := by omega
              have hx : xs[j]? = some xs[j] := List.getElem?_eq_getElem hjx
              have hIw := HI.out.next hM.below hB
              obtain ⟨bb, off, x, rfl, hbb, hx', q0, q1⟩ := hIw.at_ hlt
              obtain rfl : xs[j] = x := by rw [hx] at hx'; exact Option.some.inj hx'
              have hb3 := bnew wr (.cells #[.int .i64 xs[j].1, .int .i64 xs[j].2] 38)
              have hX : BlkIs (wr.alloc (.cells #[.int .i64 xs[j].1, .int .i64 xs[j].2] 38)) wr.heap.size 38 #[.int .i64 xs[j].1, .int .i64 xs[j].2] := blk_new _ _ _ _ rfl
              have hM2 := hM.next hb3
              have c1 := hM2.known.at_ (i := j) (by omega)
              obtain ⟨hj0, ehj⟩ : ∃ hj0, Hid (L.getD j 0 = hj0) := ⟨_, rfl⟩
              rw [ehj.out] at c1
              have HX := Lib.hid hx
              have HSW := Lib.hid hSw
              have hKN := hM.before.lt
              have hLl : L.length = 81 := hM.known.2
              clear hx' hIw hx hSw
              by_cases hun : hj0 = -1
              · subst hun
                have HSK := Lib.hid (HSW.out.skip ehj.out)
                go_wp2_with fail
                go_roundw
                case rel => exact ⟨j + 1, L, by omega, by go_num, HSK.out, hM2⟩
                case measure => simp [intOf]; omega
              · have eun : (hj0 == -1) = false := by simp; exact hun
                obtain ⟨h, h0, h1, hbh, hall⟩ := HG.out.step j xs[j] L HX.out HSW.out.inv (by rw [ehj.out]; exact hun)
                obtain rfl : (0 : Int) = h := Option.some.inj hbh
                have HALL := Lib.hid hall
                have HBH := Lib.hid hbh
                have xc0 : (wr.alloc (.cells #[.int .i64 xs[j].1, .int .i64 xs[j].2] 38)).cell? ⟨wr.heap.size, 0, none⟩ = some (.int .i64 xs[j].1) := hX.cell 0
                have xc1 : (wr.alloc (.cells #[.int .i64 xs[j].1, .int .i64 xs[j].2] 38)).cell? ⟨wr.heap.size, 1, none⟩ = some (.int .i64 xs[j].2) := hX.cell 1
                clear hall hbh
                go_upto_region 14 with fail
                generalize hW3 : wr.alloc (.cells #[.int .i64 xs[j].1, .int .i64 xs[j].2] 38) = W3 at hb3 hM2 c1 xc0 xc1 hX ⊢
                clear hX
                have hj81 : (j : Int) < 81 := by omega
                go_region_held3 (fun w' => w'.cell? ⟨wr.heap.size, 0, none⟩ = some (.int .i64 xs[j].1) ∧ w'.cell? ⟨wr.heap.size, 1, none⟩ = some (.int .i64 xs[j].2) ∧ w'.cell? ⟨w.heap.size + 1, j, none⟩ = some (.int .i64 hj0))
                  (first | go_keep | exact ⟨cell_on xc0 hb1, cell_on xc1 hb1, cell_on c1 hb1⟩ | fail)
                  (first | (go_at_call 21; refine (always_c _ _ _ _).mono ?_; rintro e w1 ⟨rfl, hb1⟩) | fail)
                have hM3 := hM2.next (bstep hb1)
                have hTC := Lib.hid (targetsOf_c (some ⟨bb, off, none⟩) n c B xs j xs[j] w1 (HI.out.next hM3.below hB) (Nat.le_trans hB hM3.below.size) HX.out (by omega) (codeB_at HV.out HX.out))
                clear hM2 xc0 xc1 c1 hM hb3
                go_wp2_with fail
                refine hTC.out.mono ?_
                rintro e w4 ⟨At, ct, rfl, hown, hb4⟩
                have hM4 := hM3.next hb4
                have hta := hown.all
                have htl := tgt_len xs[j].1 xs[j].2 j
                have HTI := Lib.hid (HT.out j xs[j] HX.out)
                have hP0 : PutTo I 0 L [] L := PutTo.nil HSW.out.inv
                obtain ⟨ys, hys⟩ : ∃ ys, Hid (tgt1 xs[j].1 xs[j].2 j = ys) := ⟨_, Lib.hid rfl⟩
                rw [hys.out] at hown hta htl HTI HALL ⊢
                clear hTC hb4 hM3
                go_upto_region 16 with fail
                have hw1 : w.heap.size + 2 ≤ w1.heap.size := by have := hM4.known.lt; have h5 := (bstep hb1).size; rw [← hW3, World.size_alloc] at h5; have := hKN; omega
                go_loopw [45] (fun i wr => ∃ (m : Nat) (M : List Int), m ≤ ys.length ∧ i = .int .i64 m ∧ PutTo I 0 L (ys.take m) M ∧ SpM w wr M K ∧ Out (w.heap.size + 1) (w.heap.size + 2) w4 wr) (fun i _ => ys.length - (intOf i).toNat)
                case atStart => exact ⟨0, L, Nat.zero_le _, rfl, hP0, hM4, Out.refl _ _ _⟩
                case round =>
                  clear hM4 hP0
                  rename World => wt
                  obtain ⟨m, M, hm, rfl, hP, hM, hO⟩ := hrel
                  by_cases hlm : m < ys.length
                  · have hrow := (hown.out hO (.inl hw1)).inn
                    obtain ⟨bt, ot, t, rfl, hbt, ht, hct⟩ := hrow.2.int_at (k := m) hlm
                    have htm : t ∈ ys := List.mem_of_getElem? ht
                    obtain ⟨t0, t1⟩ := HTI.out t htm
                    obtain ⟨a1, a2⟩ := HALL.out t htm M hP.inv hP.ext
                    have hP1 := Lib.hid (hP.more (by have := hM.known.2; omega) a1 a2)
                    obtain ⟨k, rfl⟩ : ∃ k : Nat, t = (k : Int) := ⟨t.toNat, by omega⟩
                    rw [Int.toNat_natCast] at a1 hP1
                    have htk : ys.take m ++ [(k : Int)] = ys.take (m + 1) := by rw [List.take_add_one, ht]; rfl
                    rw [htk] at hP1
                    have c1 := hM.known.at_ (i := k) (by omega)
                    have f1 := hM.known.frozen k
                    have hM1 := hM.set k 0
                    have hk81 : (k : Int) < 81 := by omega
                    have hO1 : Out (w.heap.size + 1) (w.heap.size + 2) w4 (wt.setCell ⟨w.heap.size + 1, k, none⟩ (.int .i64 0)) := out_set hO (by omega)
                    obtain ⟨hk0, ehk⟩ : ∃ hk0, Hid (M.getD k 0 = hk0) := ⟨_, Lib.hid rfl⟩
                    rw [ehk.out] at c1 a1
                    clear hM hO hP hrow ht htm
                    rcases a1 with rfl | rfl
                    · go_wp2_with fail
                      refine (insist_yes wt).mono ?_
                      rintro e w5 ⟨⟨v, rfl⟩, rfl⟩
                      go_wp2_with fail
                      go_roundw
                      case rel => exact ⟨m + 1, _, by omega, by go_num, hP1.out, hM1, hO1⟩
                      case measure => simp [intOf]; omega
                    · go_wp2_with fail
                      refine (insist_yes wt).mono ?_
                      rintro e w5 ⟨⟨v, rfl⟩, rfl⟩
                      go_wp2_with fail
                      go_roundw
                      case rel => exact ⟨m + 1, _, by omega, by go_num, hP1.out, hM1, hO1⟩
                      case measure => simp [intOf]; omega
                  · obtain rfl : m = ys.length := by omega
                    rw [List.take_length] at hP
                    have hD := Lib.hid (HSW.out.done HX.out rfl (by rw [hys.out]; exact hP))
                    go_wp2_with fail
                    go_roundw
                    case rel => exact ⟨j + 1, M, by omega, by go_num, hD.out, hM⟩
                    case measure => simp [intOf]; omega
            · obtain rfl : j = n := by omega
              have hN := hSw
              rw [← hxn] at hN
              have hS2 := Lib.hid (HS.out.next hN)
              have hE := hSw.ext
              go_wp2_with fail
              go_roundw
              case rel => exact ⟨L, K, hS2.out, hM⟩
              case measure => rw [hr1, hr2, readH_is hM.known, readH_is hM.before]; exact leftH_less hE hKB

end Go.Proofs.YtdmcpabpjhinhaaDoor
