/-
  The instruction with a text, in the program. Conditions: texts of at most 2^20 bytes; the table of the powers of ten and the two errors of strconv lie as the library's text lays them; internal/bytealg.MaxLen holds an int.
-/
import Derived.Test.YtahlpjhhbcjfpaaDoorRdQ
import Derived.Test.YtahlpjhhbcjfpaaDoorReadS
import Derived.Test.YtahlpjhhbcjfpaaDoorInsI
import Derived.Test.YtahlpjhhbcjfpaaDoorTrmP
import Derived.Test.YtahlpjhhbcjfpaaDoorBlk
import Derived.Shelf.Strings.Cut
namespace Go.Proofs
open Go.Shelf
shelf_lay Lays.n145 Nm 145 at Tryd as Tryd.lays145
end Go.Proofs
namespace Go.Proofs.YtahlpjhhbcjfpaaDoor
set_option linter.unusedVariables false
set_option linter.unusedSimpArgs false
open Go.RowKit

theorem bneR {a b : ByteArray} (h : ¬ a = b) : (a == b) = false := by
  obtain ⟨a⟩ := a
  obtain ⟨b⟩ := b
  have h1 : ¬ a = b := fun e => h (congrArg ByteArray.mk e)
  show (a == b) = false
  simpa using h1
theorem var_belowR {P : Program} {w w' : World} {n : String} {cs : Array Value} (h : w.var? P n = some cs) (hb : Below w.heap.size w w') : w'.var? P n = some cs := by
  unfold World.var? at *
  cases hg : P.globalNamed n with
  | none => simp [hg] at h
  | some g =>
    simp only [hg, Option.bind_some] at h ⊢
    have hlt : g < w.heap.size := by
      rcases Nat.lt_or_ge g w.heap.size with h' | h'
      · exact h'
      · rw [Array.getElem?_eq_none h'] at h; simp at h
    rw [hb.block g hlt]
    exact h
/-- What ReadInstr reads of the library's variables. -/
def LibR (w : World) : Prop := Tab10 w ∧ (∃ tp p, w.var? Tryd.prog "strconv.ErrSyntax" = some #[.iface tp p]) ∧ (∃ tp p, w.var? Tryd.prog "strconv.ErrRange" = some #[.iface tp p])
theorem LibR.next {w w' : World} (h : LibR w) (hb : Below w.heap.size w w') : LibR w' := by
  obtain ⟨h1, ⟨t, p, h2⟩, t', p', h3⟩ := h
  exact ⟨h1.next hb, ⟨t, p, var_belowR h2 hb⟩, t', p', var_belowR h3 hb⟩
def MaxI (w : World) : Prop := ∃ m, w.cell? ⟨1, 0, none⟩ = some (.int .i64 m)
theorem MaxI.next {w w' : World} (h : MaxI w) (hb : Below w.heap.size w w') : MaxI w' := by
  obtain ⟨m, hm⟩ := h
  exact ⟨m, cell_next hm hb⟩
theorem cutR_c (s : ByteArray) (w : World) (hs : s.size ≤ 1048576) (hm : MaxI w) :
    Calls Tryd.prog 53 #[.string s, .string ⟨#[32]⟩] w fun e w' => e = .returned (.tuple #[.string (strL (Lib.cut s.data.toList [32]).1), .string (strL (Lib.cut s.data.toList [32]).2.1), .bool (Lib.cut s.data.toList [32]).2.2]) ∧ Below w.heap.size w w' := by
  obtain ⟨m, hm⟩ := hm
  refine (Any.strings_Cut Tryd.lays145 s ⟨#[32]⟩ m w (by omega) hm).mono fun e w' hh => ?_
  obtain ⟨he, d, rfl⟩ := hh
  exact ⟨he, below_drewN (Below.refl _ _) d⟩

set_option maxRecDepth 100000 in
set_option maxHeartbeats 8000000 in
theorem implRead_c (s : ByteArray) (w : World) (hL : LibR w) (hm : MaxI w) (hs : s.size ≤ 1048576) :
    Calls Tryd.prog 14 #[.string s] w fun e w' => ∃ r, e = .returned (.tuple #[.agg #[.int .i64 r.1.1, .int .i64 r.1.2], .bool r.2]) ∧ IsR s.data.toList r ∧ Below w.heap.size w w' := by
  have hb0 := bnew w (.cells #[.int .i64 0, .int .i64 0] 26)
  have hR : BlkIs (w.alloc (.cells #[.int .i64 0, .int .i64 0] 26)) w.heap.size 26 #[.int .i64 0, .int .i64 0] := blk_new _ _ _ _ rfl
  have HC := Lib.hid (cutR_c s _ hs (hm.next hb0))
  have hL0 := hL.next hb0
  obtain ⟨cu, hcu⟩ : ∃ cu, cu = Lib.cut s.data.toList [32] := ⟨_, rfl⟩
  rw [← hcu] at HC
  have HN : Hid (rdN s.data.toList = match rd cu.2.1 with | some n => n | none => 0) := by show _ = _; rw [hcu]; rfl
  have hln := rdN_lim s.data.toList
  have hcl : (strL cu.2.1).size ≤ 1048576 := by
    rw [strL_size, hcu]
    have : (Lib.cut s.data.toList [32]).2.1.length ≤ s.data.toList.length := by
      unfold Lib.cut
      split
      · simp
      · simp
    have e : s.data.toList.length = s.size := by rw [Array.length_toList]; rfl
    omega
  have HRD := Lib.hid (fun (W : World) (h : LibR W) => readDecimal_c (strL cu.2.1) (by omega) W h.1 h.2.1 h.2.2)
  clear hL hm hcl hcu
  go_enter Tryd.func14, Tryd.ntmps14
  go_wp2_with fail
  generalize w.alloc (.cells #[.int .i64 0, .int .i64 0] 26) = W at hb0 hR HC hL0 ⊢
  refine HC.out.mono ?_
  rintro e w1 ⟨rfl, hb1⟩
  have hL1 := hL0.next hb1
  have hR1 := hR.next hb1
  go_wp2_with fail
  have HRD1 := HRD.out w1 hL1
  rw [strL_toList] at HRD1
  obtain ⟨ok, HR2⟩ : ∃ ok : Bool, Hid (rdR (rd cu.2.1) = .returned (.tuple #[.int .i64 (rdN s.data.toList), .bool ok])) := by
    rw [HN.out]
    cases h : rd cu.2.1 with
    | none => exact ⟨false, rfl⟩
    | some n => exact ⟨true, rfl⟩
  rw [HR2.out] at HRD1
  have HD := Lib.hid HRD1
  clear HRD1 HRD HC HN HR2
  obtain ⟨nn, hnn⟩ : ∃ nn, rdN s.data.toList = nn := ⟨_, rfl⟩
  rw [hnn] at HD hln
  have HNN := Lib.hid hnn
  clear hnn
  refine HD.out.mono ?_
  rintro e w2 ⟨rfl, hb2⟩
  have hL2 := hL1.next hb2
  have hR2 := hR1.next hb2
  have hb02 := bon (bon hb0 hb1) hb2
  go_wp2_with fail
  refine (operations_c w2).mono ?_
  rintro e w3 ⟨rfl, hb3⟩
  have hL3 := hL2.next hb3
  have hR3 := hR2.next hb3
  have hb03 := bon hb02 hb3
  clear HD hL0 hL1 hL2 hR hR1 hR2
  have hRl := hR3.lt
  go_wp2_with fail
  go_loopw [9, 10, 11, 12, 25] (fun _ _ _ _ i wr => ∃ k : Nat, k ≤ 12 ∧ i = .int .i64 k ∧ Hid (∀ j : Nat, j < k → ¬ isL s.data.toList (j : Int) nn) ∧ Below w3.heap.size w3 wr) (fun _ _ _ _ i _ => 12 - (intOf i).toNat)
  case atStart => exact ⟨0, by omega, rfl, fun j hj => by omega, Below.refl _ _⟩
  case round =>
    obtain ⟨k, hk, rfl, hno, hbel⟩ := hrel
    have hRr := hR3.next hbel
    have y0 := hRr.frozen 0
    have y1 := hRr.frozen 1
    have x0 : wr.cell? ⟨w.heap.size, 0, none⟩ = some (.int .i64 0) := hRr.cell 0
    have x1 : wr.cell? ⟨w.heap.size, 1, none⟩ = some (.int .i64 0) := hRr.cell 1
    by_cases hlt : k < 12
    · have i1 : (k : Int) < 12 := by omega
      have hbN := bnew wr (.cells #[.int .i64 (k : Int), .int .i64 nn] 26)
      have HI0 := implText_c (k : Int) nn (wr.alloc (.cells #[.int .i64 (k : Int), .int .i64 nn] 26)) (((hL3.next hbel).next hbN).1)
      have hP : BlkIs (wr.alloc (.cells #[.int .i64 (k : Int), .int .i64 nn] 26)) wr.heap.size 26 #[.int .i64 (k : Int), .int .i64 nn] := blk_new _ _ _ _ rfl
      have hRN := hRr.next hbN
      have p0 : (wr.alloc (.cells #[.int .i64 (k : Int), .int .i64 nn] 26)).cell? ⟨wr.heap.size, 0, none⟩ = some (.int .i64 (k : Int)) := by simp
      have p1 : (wr.alloc (.cells #[.int .i64 (k : Int), .int .i64 nn] 26)).cell? ⟨wr.heap.size, 1, none⟩ = some (.int .i64 nn) := by simp
      cases hv : instrB (k : Int) nn with
      | false =>
        rw [insR_no hv] at HI0
        have HI := Lib.hid HI0
        have HS : Hid (∀ j : Nat, j < k + 1 → ¬ isL s.data.toList (j : Int) nn) := fun j hj => by
          by_cases e : j = k
          · subst e; intro h; have h1 := h.1; rw [hv] at h1; exact absurd h1 (by decide)
          · exact hno.out j (by omega)
        clear HI0 hv hno x0 x1 y0 y1
        go_wp2_with fail
        generalize wr.alloc (.cells #[.int .i64 (k : Int), .int .i64 nn] 26) = W2 at hbN HI hP hRN p0 p1 ⊢
        refine HI.out.mono ?_
        rintro e w4 ⟨rfl, hb4⟩
        go_wp2_with fail
        go_roundw
        case rel => exact ⟨k + 1, by omega, by go_num, HS, bon (bon hbel hbN) hb4⟩
        case measure => simp [intOf]; omega
      | true =>
        rw [insR_yes hv] at HI0
        by_cases he : lineL (k : Int) nn = s.data.toList
        · have hE : lineB (k : Int) nn = s := by
            apply ByteArray.ext
            apply Array.toList_inj.1
            rw [lineB_toList]
            exact he
          rw [hE] at HI0
          have HI := Lib.hid HI0
          have HF : Hid (IsR s.data.toList (((k : Int), nn), true)) := .inl ⟨⟨hv, he⟩, rfl⟩
          clear HI0 hv hno x0 x1 y0 y1 he hE
          go_wp2_with fail
          generalize wr.alloc (.cells #[.int .i64 (k : Int), .int .i64 nn] 26) = W2 at hbN HI hP hRN p0 p1 ⊢
          refine HI.out.mono ?_
          rintro e w4 ⟨rfl, hb4⟩
          have hR4 := hRN.next hb4
          have hP4 := hP.next hb4
          have u0 : w4.cell? ⟨wr.heap.size, 0, none⟩ = some (.int .i64 (k : Int)) := hP4.cell 0
          have u1 : w4.cell? ⟨wr.heap.size, 1, none⟩ = some (.int .i64 nn) := hP4.cell 1
          have y0 := hR4.frozen 0
          have y1 := hR4.frozen 1
          have x0 : w4.cell? ⟨w.heap.size, 0, none⟩ = some (.int .i64 0) := hR4.cell 0
          have x1 : w4.cell? ⟨w.heap.size, 1, none⟩ = some (.int .i64 0) := hR4.cell 1
          have hbF := ((bon hb03 (bon (bon hbel hbN) hb4)).setCell (p := ⟨w.heap.size, 0, none⟩) (Nat.le_refl _) (.int .i64 (k : Int))).setCell (p := ⟨w.heap.size, 1, none⟩) (Nat.le_refl _) (.int .i64 nn)
          have hR5 := (hR4.set 0 (.int .i64 (k : Int))).set 1 (.int .i64 nn)
          have s0 : ((w4.setCell ⟨w.heap.size, 0, none⟩ (.int .i64 (k : Int))).setCell ⟨w.heap.size, 1, none⟩ (.int .i64 nn)).cell? ⟨w.heap.size, 0, none⟩ = some (.int .i64 (k : Int)) := by rw [hR5.cell 0]; simp
          have s1 : ((w4.setCell ⟨w.heap.size, 0, none⟩ (.int .i64 (k : Int))).setCell ⟨w.heap.size, 1, none⟩ (.int .i64 nn)).cell? ⟨w.heap.size, 1, none⟩ = some (.int .i64 nn) := by rw [hR5.cell 1]; simp
          go_wp2_with fail
          refine bodyPost_ret (v := .tuple #[.agg #[.int .i64 (k : Int), .int .i64 nn], .bool true]) (by simp [results, Tryd.results14, go_sem, s0, s1]) rfl ?_
          exact ⟨(((k : Int), nn), true), rfl, HF.out, hbF⟩
        · have hE : ¬ lineB (k : Int) nn = s := fun h => he (by rw [← lineB_toList, h])
          have t1 : (lineB (k : Int) nn == s) = false := bneR hE
          have t2 : ((lineB (k : Int) nn).toList == s.toList) = false := by
            rw [Go.ByteArray.toList_eq, Go.ByteArray.toList_eq, lineB_toList]; simpa using he
          have HI := Lib.hid HI0
          have HS : Hid (∀ j : Nat, j < k + 1 → ¬ isL s.data.toList (j : Int) nn) := fun j hj => by
            by_cases e : j = k
            · subst e; exact fun h => he h.2
            · exact hno.out j (by omega)
          clear HI0 hv hno x0 x1 y0 y1 he
          go_wp2_with fail
          generalize wr.alloc (.cells #[.int .i64 (k : Int), .int .i64 nn] 26) = W2 at hbN HI hP hRN p0 p1 ⊢
          refine HI.out.mono ?_
          rintro e w4 ⟨rfl, hb4⟩
          go_wp2_with fail
          go_roundw
          case rel => exact ⟨k + 1, by omega, by go_num, HS, bon (bon hbel hbN) hb4⟩
          case measure => simp [intOf]; omega
    · have hk12 : k = 12 := by omega
      have i1 : ¬ (k : Int) < 12 := by omega
      have HF : Hid (IsR s.data.toList ((0, 0), false)) := .inr ⟨none_of (fun j hj => by rw [HNN.out]; exact hno.out j (by omega)), rfl⟩
      have hbF := ((bon hb03 hbel).setCell (p := ⟨w.heap.size, 0, none⟩) (Nat.le_refl _) (.int .i64 0)).setCell (p := ⟨w.heap.size, 1, none⟩) (Nat.le_refl _) (.int .i64 0)
      have hR5 := (hRr.set 0 (.int .i64 0)).set 1 (.int .i64 0)
      have s0 : ((wr.setCell ⟨w.heap.size, 0, none⟩ (.int .i64 0)).setCell ⟨w.heap.size, 1, none⟩ (.int .i64 0)).cell? ⟨w.heap.size, 0, none⟩ = some (.int .i64 0) := by rw [hR5.cell 0]; simp
      have s1 : ((wr.setCell ⟨w.heap.size, 0, none⟩ (.int .i64 0)).setCell ⟨w.heap.size, 1, none⟩ (.int .i64 0)).cell? ⟨w.heap.size, 1, none⟩ = some (.int .i64 0) := by rw [hR5.cell 1]; simp
      go_wp2_with fail
      refine bodyPost_ret (v := .tuple #[.agg #[.int .i64 0, .int .i64 0], .bool false]) (by simp [results, Tryd.results14, go_sem, s0, s1]) rfl ?_
      first | exact ⟨0, 0, .inl ⟨rfl, HF.out, hbF⟩⟩ | exact ⟨((0, 0), false), rfl, HF.out, hbF⟩
end Go.Proofs.YtahlpjhhbcjfpaaDoor

