/-
  The text of a sequent, in the model and in the program (a strings.Builder). Conditions: at most 2^20 terms and coefficients; the table of the powers of ten lies as the library's text lays it.
-/
import Derived.Test.YtahlpjhhbcjfpaaDoorTrmT
import Derived.Test.YtahlpjhhbcjfpaaDoorTxtI
import Derived.Test.YtahlpjhhbcjfpaaDoorSeqK
namespace Go.Proofs.YtahlpjhhbcjfpaaDoor
set_option linter.unusedVariables false
set_option linter.unusedSimpArgs false
open Go.RowKit

/-- The texts of facts, each with its mark. -/
def sqF (ts : List (Int × List Int)) : List UInt8 := ts.flatMap fun t => termL t ++ [59]
def seqL (ts : List (Int × List Int)) (g : Int × List Int) : List UInt8 := sqF ts ++ ([61, 62] ++ termL g)
theorem sqF_succ {ts : List (Int × List Int)} {k : Nat} {t : Int × List Int} (h : ts[k]? = some t) : sqF (ts.take (k + 1)) = sqF (ts.take k) ++ (termL t ++ [59]) := by
  unfold sqF; rw [List.take_add_one, h]; simp
theorem term_short {t : Int × List Int} (h : tmB t = true) : (termL t).length ≤ 253 := by
  unfold termL
  split
  · simp
  · have h1 := acc_short h (tmB_parts h).1 (t.2.length + 1)
    rwa [accP_end (Nat.lt_succ_self _)] at h1
theorem sqF_short : ∀ (ts : List (Int × List Int)), (∀ t ∈ ts, tmB t = true) → (sqF ts).length ≤ 254 * ts.length
  | [], _ => by simp [sqF]
  | t :: ts, h => by
    have h1 := sqF_short ts fun u hu => h u (List.mem_cons_of_mem _ hu)
    have h2 := term_short (h t List.mem_cons_self)
    have e : sqF (t :: ts) = (termL t ++ [59]) ++ sqF ts := by simp [sqF]
    rw [e]
    simp only [List.length_append, List.length_cons, List.length_nil]
    omega
theorem sqF_take {ts : List (Int × List Int)} (h : ∀ t ∈ ts, tmB t = true) (hl : ts.length ≤ 13) (k : Nat) : (sqF (ts.take k)).length ≤ 3302 := by
  have h1 := sqF_short (ts.take k) fun t ht => h t (List.mem_of_mem_take ht)
  have h2 : (ts.take k).length ≤ 13 := by rw [List.length_take]; omega
  omega
theorem seqB_all {ts : List (Int × List Int)} {g : Int × List Int} (h : seqB ts g = true) : (∀ t ∈ ts, tmB t = true) ∧ ts.length ≤ 13 ∧ tmB g = true := by
  unfold seqB at h
  rw [Bool.and_eq_true] at h
  exact ⟨(allT_parts h.1).1, (allT_parts h.1).2, h.2⟩
def sqR (ts : List (Int × List Int)) (g : Int × List Int) : ByteArray × Bool := if seqB ts g = true then (strL (seqL ts g), true) else (⟨#[]⟩, false)
theorem sqR_yes {ts : List (Int × List Int)} {g : Int × List Int} (h : seqB ts g = true) : sqR ts g = (strL (seqL ts g), true) := if_pos h
theorem sqR_no {ts : List (Int × List Int)} {g : Int × List Int} (h : seqB ts g = false) : sqR ts g = (⟨#[]⟩, false) := if_neg (by rw [h]; decide)

set_option maxRecDepth 100000 in
set_option maxHeartbeats 4000000 in
theorem l02SeqText_c (b : Nat) (c0 : Int) (A : Option Addr) (n c B : Nat) (ts : List (Int × List Int)) (D : Option Addr) (m d : Nat) (zs : List Int) (w : World)
    (p0 : w.cell? ⟨b, 0, none⟩ = some (.slice A n c)) (p1 : w.cell? ⟨b, 1, none⟩ = some (.int .i64 c0)) (p2 : w.cell? ⟨b, 1 + 1, none⟩ = some (.slice D m d)) (h : InTS w B A n ts) (hl : InL w B D m zs) (hB : B ≤ w.heap.size) (hv : seqB ts (c0, zs) = true) :
    Calls Tryd.prog 74 #[.pointer (some ⟨b, 0, none⟩)] w fun e w' => e = .returned (.string (strL (seqL ts (c0, zs)))) ∧ Below w.heap.size w w' := by
  have hlen := Lib.hid h.1
  have hp := seqB_all hv
  have HV := Lib.hid hp
  have hn : n ≤ 13 := by have h1 := hp.2.1; have h2 := h.1; omega
  have hm : m ≤ 10 := by have h1 := (tmB_parts hp.2.2).1; have h2 := hl.1; exact h2 ▸ h1
  clear hv hp
  go_enter Tryd.func74, Tryd.ntmps74
  go_wp2_with fail
  go_loopw [3, 4] (fun s i wr => ∃ (k : Nat) (T : ByteArray), k ≤ n ∧ i = .int .i64 k ∧ s = .string T ∧ Hid (T = strL (sqF (ts.take k))) ∧ Below w.heap.size w wr) (fun _ i _ => n - (intOf i).toNat)
  case atStart => exact ⟨0, ⟨#[]⟩, Nat.zero_le _, rfl, rfl, rfl, Below.refl _ _⟩
  case round =>
    obtain ⟨k, T, hk, rfl, rfl, hT, hbel⟩ := hrel
    have d0 := cell_next p0 hbel
    have d1 := cell_next p1 hbel
    have d2 := cell_next p2 hbel
    have hTs := sqF_take HV.out.1 HV.out.2.1 k
    rw [← strL_size, ← hT.out] at hTs
    by_cases hlt : k < n
    · obtain ⟨b', off, A', n', c', t, rfl, hb', ht, hc0, hc1, hin⟩ := (h.next hbel hB).at_ hlt
      have htv := HV.out.1 t (List.mem_of_getElem? ht)
      have hn' : n' ≤ 10 := by have h1 := (tmB_parts htv).1; have h2 := hin.1; exact h2 ▸ h1
      have HI := Lib.hid (l02Text_c b' (off + k * 2) t.1 A' n' c' B t.2 wr hc0 hc1 hin (Nat.le_trans hB hbel.size) htv hn')
      have hts : (strL (termL (t.1, t.2))).size ≤ 253 := by rw [strL_size]; exact term_short htv
      have HS : Hid (T ++ (strL (termL (t.1, t.2)) ++ ⟨#[59]⟩) = strL (sqF (ts.take (k + 1)))) := by
        show T ++ (strL (termL t) ++ ⟨#[59]⟩) = strL (sqF (ts.take (k + 1)))
        rw [sqF_succ ht, hT.out]
        apply ByteArray.ext; simp [strL, ByteArray.data_append]
      have z1 : ¬ 9223372036854775807 < (strL (termL (t.1, t.2))).size + 1 := by omega
      have z2 : ¬ 9223372036854775807 < T.size + ((strL (termL (t.1, t.2))).size + 1) := by omega
      have i1 : (k : Int) < (n : Int) := by omega
      clear ht htv hts hTs hT hc0 hc1 hin hlen
      go_wp2_with fail
      refine HI.out.mono ?_
      rintro e w2 ⟨rfl, hb2⟩
      go_wp2_with fail
      go_roundw
      case rel => exact ⟨k + 1, _, by omega, by go_num, rfl, HS, bon hbel hb2⟩
      case measure => simp [intOf]; omega
    · have HI := Lib.hid (l02Text_c b 1 c0 D m d B zs wr d1 d2 (hl.next hbel hB) (Nat.le_trans hB hbel.size) HV.out.2.2 hm)
      have hgs := term_short HV.out.2.2
      rw [← strL_size] at hgs
      have HS : Hid (T ++ ⟨#[61, 62]⟩ ++ strL (termL (c0, zs)) = strL (seqL ts (c0, zs))) := by
        show _ = _
        rw [hT.out, List.take_of_length_le (by have := hlen.out; omega)]
        unfold seqL
        apply ByteArray.ext; simp [strL, ByteArray.data_append]
      have z1 : ¬ 9223372036854775807 < T.size + 2 := by omega
      have z2 : ¬ 9223372036854775807 < T.size + 2 + (strL (termL (c0, zs))).size := by omega
      have i1 : ¬ (k : Int) < (n : Int) := by omega
      clear hgs hTs hT hlen
      go_wp2_with fail
      refine HI.out.mono ?_
      rintro e w2 ⟨rfl, hb2⟩
      go_wp2_with fail
      go_ret
      exact ⟨congrArg (fun s => Ending.returned (Value.string s)) HS.out, bon hbel hb2⟩

set_option maxRecDepth 100000 in
set_option maxHeartbeats 4000000 in
theorem specSeqText_c (c0 : Int) (A : Option Addr) (n c : Nat) (ts : List (Int × List Int)) (D : Option Addr) (m d : Nat) (zs : List Int) (w : World) (h : InTS w w.heap.size A n ts) (hl : InL w w.heap.size D m zs) (hn : n ≤ 1048576) (he : totT ts ≤ 1048576) (hm : m ≤ 1048576) :
    Calls Tryd.prog 27 #[.agg #[.slice A n c, .int .i64 c0, .slice D m d]] w fun e w' => e = .returned (.tuple #[.string (sqR ts (c0, zs)).1, .bool (sqR ts (c0, zs)).2]) ∧ Below w.heap.size w w' := by
  have hb0 := bnew w (.cells #[.slice A n c, .int .i64 c0, .slice D m d] 56)
  have HS0 := l02Sequent_c w.heap.size 0 c0 A n c w.heap.size ts D m d zs (w.alloc (.cells #[.slice A n c, .int .i64 c0, .slice D m d] 56)) (by simp) (by simp) (by simp) (h.next hb0 (Nat.le_refl _)) (hl.next hb0 (Nat.le_refl _)) hn he hm
  cases hv : seqB ts (c0, zs) with
  | false =>
    rw [sqR_no hv]
    rw [hv] at HS0
    have HS := Lib.hid HS0
    clear HS0 hv h hl
    go_enter Tryd.func27, Tryd.ntmps27
    go_wp2_with fail
    refine HS.out.mono ?_
    rintro e w1 ⟨rfl, rfl⟩
    go_wp2_with fail
    go_ret2
    exact ⟨rfl, hb0⟩
  | true =>
    rw [sqR_yes hv]
    rw [hv] at HS0
    have HS := Lib.hid HS0
    have HT := Lib.hid (l02SeqText_c w.heap.size c0 A n c w.heap.size ts D m d zs (w.alloc (.cells #[.slice A n c, .int .i64 c0, .slice D m d] 56)) (by simp) (by simp) (by simp) (h.next hb0 (Nat.le_refl _)) (hl.next hb0 (Nat.le_refl _)) hb0.size hv)
    clear HS0 hv h hl
    go_enter Tryd.func27, Tryd.ntmps27
    go_wp2_with fail
    refine HS.out.mono ?_
    rintro e w1 ⟨rfl, rfl⟩
    go_wp2_with fail
    refine HT.out.mono ?_
    rintro e w2 ⟨rfl, hb2⟩
    go_wp2_with fail
    go_ret2
    exact ⟨rfl, bon hb0 hb2⟩

set_option maxRecDepth 100000 in
set_option maxHeartbeats 8000000 in
theorem implSeqText_c (c0 : Int) (A : Option Addr) (n c : Nat) (ts : List (Int × List Int)) (D : Option Addr) (m d : Nat) (zs : List Int) (w : World) (hT : Tab10 w) (h : InTS w w.heap.size A n ts) (hl : InL w w.heap.size D m zs) (hn : n ≤ 1048576) (he : totT ts ≤ 1048576) (hm : m ≤ 1048576) :
    Calls Tryd.prog 29 #[.agg #[.slice A n c, .int .i64 c0, .slice D m d]] w fun e w' => e = .returned (.tuple #[.string (sqR ts (c0, zs)).1, .bool (sqR ts (c0, zs)).2]) ∧ Below w.heap.size w w' := by
  have hb0 := bnew w (.cells #[.slice A n c, .int .i64 c0, .slice D m d] 56)
  have hP : BlkIs (w.alloc (.cells #[.slice A n c, .int .i64 c0, .slice D m d] 56)) w.heap.size 56 #[.slice A n c, .int .i64 c0, .slice D m d] := blk_new _ _ _ _ rfl
  have HC0 := implSeq_c c0 A n c w.heap.size ts D m d zs (w.alloc (.cells #[.slice A n c, .int .i64 c0, .slice D m d] 56)) (h.next hb0 (Nat.le_refl _)) (hl.next hb0 (Nat.le_refl _)) hb0.size he hm
  cases hv : seqB ts (c0, zs) with
  | false =>
    rw [sqR_no hv]
    rw [hv] at HC0
    have HC := Lib.hid HC0
    clear HC0 hv h hl
    go_enter Tryd.func29, Tryd.ntmps29
    go_wp2_with fail
    generalize w.alloc (.cells #[.slice A n c, .int .i64 c0, .slice D m d] 56) = W at hb0 hP HC ⊢
    refine HC.out.mono ?_
    rintro e w1 ⟨rfl, hb1⟩
    go_wp2_with fail
    go_ret2
    exact ⟨rfl, bon hb0 hb1⟩
  | true =>
    rw [sqR_yes hv]
    rw [hv] at HC0
    have HC := Lib.hid HC0
    have hp := seqB_all hv
    have HV := Lib.hid hp
    have hlen := Lib.hid h.1
    have hn13 : n ≤ 13 := by have h1 := hp.2.1; have h2 := h.1; omega
    clear HC0 hv hp
    go_enter Tryd.func29, Tryd.ntmps29
    go_wp2_with fail
    generalize w.alloc (.cells #[.slice A n c, .int .i64 c0, .slice D m d] 56) = W at hb0 hP HC ⊢
    refine HC.out.mono ?_
    rintro e w1 ⟨rfl, hb1⟩
    have hP1 := hP.next hb1
    have hn1 := bld_new w1
    have hbA := bnew w1 (.cells #[.pointer none, .slice none 0 0] 100)
    have hlA : w1.heap.size < (w1.alloc (.cells #[.pointer none, .slice none 0 0] 100)).heap.size := by simp
    have hPA := hP1.next hbA
    have hs1 := hb1.size
    have hs0 := hb0.size
    have e0 : (w1.alloc (.cells #[.pointer none, .slice none 0 0] 100)).cell? ⟨w.heap.size, 0, none⟩ = some (.slice A n c) := hPA.cell 0
    go_wp2_with fail
    generalize w1.alloc (.cells #[.pointer none, .slice none 0 0] 100) = W1 at hn1 hbA hlA hPA e0 ⊢
    have hb01 := bon (bon hb0 hb1) hbA
    have r1 : W1.cell? ⟨w.heap.size, 1, none⟩ = some (.int .i64 c0) := hPA.cell 1
    have r2 : W1.cell? ⟨w.heap.size, 2, none⟩ = some (.slice D m d) := hPA.cell 2
    have hlt1 : w.heap.size < w1.heap.size := by have := cell_lt (hP1.cell 0 : w1.cell? ⟨w.heap.size, 0, none⟩ = some (.slice A n c)); exact this
    have HB01 := Lib.hid hb01
    go_loopw [6, 7, 8, 17] (fun _ _ _ i wr => ∃ k : Nat, k ≤ n ∧ i = .int .i64 k ∧ Bld wr w1.heap.size (sqF (ts.take k)) ∧ Below w.heap.size w wr ∧ Below w1.heap.size W1 wr) (fun _ _ _ i _ => n - (intOf i).toNat)
    case atStart => exact ⟨0, Nat.zero_le _, rfl, hn1, hb01, Below.refl _ _⟩
    case round =>
      clear hn1 hb01 hbA
      obtain ⟨k, hk, rfl, hbd, hbel, hbx⟩ := hrel
      by_cases hlt : k < n
      · obtain ⟨b, off, A', n', c', t, rfl, hb, ht, c00, c01, hin⟩ := (h.next hbel (Nat.le_refl _)).at_ hlt
        have htv := HV.out.1 t (List.mem_of_getElem? ht)
        have hn' : n' ≤ 10 := by have h1 := (tmB_parts htv).1; have h2 := hin.1; exact h2 ▸ h1
        have hbN := bnew wr (.cells #[.int .i64 t.1, .slice A' n' c'] 45)
        have y0 : (wr.alloc (.cells #[.int .i64 t.1, .slice A' n' c'] 45)).cell? ⟨wr.heap.size, 0, none⟩ = some (.int .i64 t.1) := by simp
        have y1 : (wr.alloc (.cells #[.int .i64 t.1, .slice A' n' c'] 45)).cell? ⟨wr.heap.size, 1, none⟩ = some (.slice A' n' c') := by simp
        have HI0 := implTermText_c t.1 A' n' c' t.2 (wr.alloc (.cells #[.int .i64 t.1, .slice A' n' c'] 45)) ((hT.next hbel).next hbN) ((hin.more hbel.size).next hbN (Nat.le_refl _) |>.more hbN.size) (by omega)
        rw [ttR_yes (t := (t.1, t.2)) htv] at HI0
        have HI := Lib.hid HI0
        have hbd2 := hbd.next hbN
        have HX := Lib.hid (And.intro ht (term_short htv))
        have HS2 := Lib.hid (sqF_take HV.out.1 HV.out.2.1 k)
        have z1 : ¬ 9223372036854775807 < (strL (termL (t.1, t.2))).size + 1 := by rw [strL_size]; have := term_short htv; show ¬ _ < (termL t).length + 1; omega
        have i1 : (k : Int) < (n : Int) := by omega
        clear ht htv HI0 hbd hin
        go_wp2_with fail
        generalize wr.alloc (.cells #[.int .i64 t.1, .slice A' n' c'] 45) = W2 at hbN y0 y1 HI hbd2 ⊢
        refine HI.out.mono ?_
        rintro e w2 ⟨rfl, hb2⟩
        have hbd3 := hbd2.next hb2
        have hlt3 := hbd3.lt
        have HWS := Lib.hid (writeString_c w1.heap.size (sqF (ts.take k)) (strL (termL (t.1, t.2)) ++ ⟨#[59]⟩) w2 hbd3 (by
          have h1 := HX.out.2
          have h2 := HS2.out
          have e1 : (strL (termL (t.1, t.2)) ++ (⟨#[59]⟩ : ByteArray)).size = (strL (termL (t.1, t.2))).size + 1 := by simp [ByteArray.size_append]; rfl
          rw [e1, strL_size]
          show _ + ((termL t).length + 1) ≤ _
          omega))
        go_wp2_with fail
        refine HWS.out.mono ?_
        rintro e w3 ⟨rfl, hbd4, hb3⟩
        have HB : Hid (Bld w3 w1.heap.size (sqF (ts.take (k + 1)))) := by
          show Bld _ _ _
          rw [sqF_succ HX.out.1]
          have e2 : (strL (termL (t.1, t.2)) ++ (⟨#[59]⟩ : ByteArray)).data.toList = termL t ++ [59] := by simp [ByteArray.data_append, strL]
          rw [e2] at hbd4
          exact hbd4
        have hb12 := bon hbN hb2
        have hbF := (bon hbel hb12).trans (hb3.mono (by omega))
        have hsx := hbx.size
        have hbX := (hbx.trans (hb12.mono (by omega))).trans (hb3.mono (Nat.le_refl _))
        go_wp2_with fail
        go_roundw
        case rel => exact ⟨k + 1, by omega, by go_num, HB.out, hbF, hbX⟩
        case measure => simp [intOf]; omega
      · have HE : Hid (sqF (ts.take k) = sqF ts) := by show _ = _; rw [List.take_of_length_le (by have := hlen.out; omega)]
        have g1 : wr.cell? ⟨w.heap.size, 1, none⟩ = some (.int .i64 c0) := (hbx.cell (p := ⟨w.heap.size, 1, none⟩) hlt1).trans r1
        have g2 : wr.cell? ⟨w.heap.size, 2, none⟩ = some (.slice D m d) := (hbx.cell (p := ⟨w.heap.size, 2, none⟩) hlt1).trans r2
        have hgl := HV.out.2.2
        have hgs := term_short hgl
        have HI0 := implTermText_c c0 D m d zs wr (hT.next hbel) ((hl.next hbel (Nat.le_refl _)).more hbel.size) hm
        rw [ttR_yes hgl] at HI0
        have HI := Lib.hid HI0
        have hss := sqF_take HV.out.1 HV.out.2.1 k
        rw [HE.out] at hbd hss
        have z1 : ¬ 9223372036854775807 < 2 + (strL (termL (c0, zs))).size := by rw [strL_size]; omega
        have i1 : ¬ (k : Int) < (n : Int) := by omega
        have HG := Lib.hid (And.intro hgs hss)
        clear hgl HI0 hgs hss HE
        go_wp2_with fail
        refine HI.out.mono ?_
        rintro e w2 ⟨rfl, hb2⟩
        have hbd3 := hbd.next hb2
        have HWS := Lib.hid (writeString_c w1.heap.size (sqF ts) (⟨#[61, 62]⟩ ++ strL (termL (c0, zs))) w2 hbd3 (by
          have h1 := HG.out.1
          have h2 := HG.out.2
          have e1 : ((⟨#[61, 62]⟩ : ByteArray) ++ strL (termL (c0, zs))).size = 2 + (strL (termL (c0, zs))).size := by simp [ByteArray.size_append]; rfl
          rw [e1, strL_size]
          omega))
        go_wp2_with fail
        refine HWS.out.mono ?_
        rintro e w3 ⟨rfl, hbd4, hb3⟩
        have HB : Hid (Bld w3 w1.heap.size (seqL ts (c0, zs))) := by
          show Bld _ _ _
          have e2 : ((⟨#[61, 62]⟩ : ByteArray) ++ strL (termL (c0, zs))).data.toList = [61, 62] ++ termL (c0, zs) := by simp [ByteArray.data_append, strL]
          rw [e2] at hbd4
          exact hbd4
        have HS := Lib.hid (builderString_c w1.heap.size (seqL ts (c0, zs)) w3 HB.out)
        have hsr := hbel.size
        have hbF := (bon hbel hb2).trans (hb3.mono (by omega))
        go_wp2_with fail
        refine HS.out.mono ?_
        rintro e w4 ⟨rfl, hb4⟩
        go_wp2_with fail
        go_ret2
        exact ⟨rfl, hbF.trans (hb4.mono (by omega))⟩
end Go.Proofs.YtahlpjhhbcjfpaaDoor
