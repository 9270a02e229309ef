/-
  Lists of terms: what they hold, how the law counts, copies and compares them; whether all are valid. Conditions: at most 2^20 terms and coefficients.
-/
import Derived.Test.YtahlpjhhbcjfpaaDoorTermK
import Derived.Test.YtahlpjhhbcjfpaaDoorValid
import Derived.Test.YtahlpjhhbcjfpaaDoorTms
import Derived.BigQuiet
import Derived.Deep.QuietTactic
namespace Go.Proofs.YtahlpjhhbcjfpaaDoor
open Go.RowKit

/-- How many coefficients a list of terms holds. -/
def totT (ts : List (Int × List Int)) : Nat := (ts.map fun t => t.2.length).sum
theorem totT_succ {ts : List (Int × List Int)} {k : Nat} {t : Int × List Int} (h : ts[k]? = some t) : totT (ts.take (k + 1)) = totT (ts.take k) + t.2.length := by
  unfold totT; rw [List.take_add_one, h]; simp
theorem totT_take (ts : List (Int × List Int)) (k : Nat) : totT (ts.take k) ≤ totT ts := by
  have h : totT ts = totT (ts.take k) + totT (ts.drop k) := by
    unfold totT
    have := congrArg List.sum (List.take_append_drop k (ts.map fun t => t.2.length))
    rw [List.sum_append, ← List.map_take, ← List.map_drop] at this
    exact this.symm
  omega
theorem totT_mem {ts : List (Int × List Int)} {t : Int × List Int} (h : t ∈ ts) : t.2.length ≤ totT ts := by
  obtain ⟨k, hk⟩ := List.getElem?_of_mem h
  have h1 := totT_succ hk
  have h2 := totT_take ts (k + 1)
  omega
theorem each_of {ts : List (Int × List Int)} (h : totT ts ≤ 1048576) : ∀ t ∈ ts, t.2.length ≤ maxLen := fun t ht => by
  have := totT_mem ht
  unfold maxLen; omega
theorem take_all {α : Type} {ts : List α} {k : Nat} (h : ts.length ≤ k) : ts.take k = ts := List.take_of_length_le h

/-- Terms that a slice leads to, below block B. -/
def InTS (w : World) (B : Nat) (A : Option Addr) (n : Nat) (ts : List (Int × List Int)) : Prop := ts.length = n ∧ TRow w B A ts
section
variable {w w' : World} {lo hi B B' : Nat} {A : Option Addr} {n : Nat} {ts : List (Int × List Int)}
theorem InTS.next (h : InTS w B A n ts) (hb : Below B' w w') (hB : B ≤ B') : InTS w' B A n ts := ⟨h.1, h.2.below hb hB⟩
theorem InTS.more (h : InTS w B A n ts) (hB : B ≤ B') : InTS w B' A n ts := ⟨h.1, h.2.more hB⟩
theorem InTS.drew (h : InTS w B A n ts) : InTS w.drew B A n ts := h
theorem InTS.out (h : InTS w B A n ts) (ho : Out lo hi w w') (hB : B ≤ lo) (hs : B ≤ w.heap.size) : InTS w' B A n ts := h.next (ho.below hB hs) (Nat.le_refl _)
theorem InTS.call (h : InTS w B A n ts) (hB : B ≤ w.heap.size) (hb : Below w.drew.heap.size w.drew w') : InTS w' B A n ts := h.next (bstep hb) hB
theorem InTS.at_ (h : InTS w B A n ts) {k : Nat} (hk : k < n) : ∃ b off A' n' c' t, A = some ⟨b, off, none⟩ ∧ b < B ∧ ts[k]? = some t ∧ w.cell? ⟨b, off + k * 2, none⟩ = some (.int .i64 t.1) ∧ w.cell? ⟨b, off + k * 2 + 1, none⟩ = some (.slice A' n' c') ∧ InL w B A' n' t.2 := by
  have hk' : k < ts.length := by rw [h.1]; exact hk
  obtain ⟨b, off, A', n', c', e, hb, h1, h2, h3, h4⟩ := h.2 k ts[k] (List.getElem?_eq_getElem hk')
  exact ⟨b, off, A', n', c', ts[k], e, hb, List.getElem?_eq_getElem hk', h1, h2, h3, h4⟩
end

set_option maxRecDepth 100000 in
set_option maxHeartbeats 1000000 in
theorem szTermS_k (A : Option Addr) (n c B : Nat) (ts : List (Int × List Int)) (left : Int) (w : World) (h : InTS w B A n ts) (hB : B ≤ w.heap.size) (hl0 : 0 ≤ left) (hl1 : left ≤ 1048576) (hn : n ≤ maxLen) (he : ∀ t ∈ ts, t.2.length ≤ maxLen) :
    Calls Tryd.prog 72 #[.slice A n c, .int .i64 left] w fun e w' => e = .returned (.int .i64 (szv left (n + totT ts))) ∧ Below w.heap.size w w' := by
  have HE := Lib.hid he
  have hlen := Lib.hid h.1
  clear he
  unfold maxLen at hn
  rcases Int.lt_or_le left n with hlt | hle
  · have HV : Hid (szv left (n + totT ts) = -1) := szv_no (by omega)
    have h1 : left - (n : Int) < 0 := by omega
    clear hlt
    go_enter Tryd.func72, Tryd.ntmps72
    go_wp2_with fail
    go_ret
    exact ⟨ret_int HV.out.symm, Below.refl _ _⟩
  · have h1 : 0 ≤ left - (n : Int) := by omega
    have HLE := Lib.hid hle
    clear hle
    go_enter Tryd.func72, Tryd.ntmps72
    go_wp2_with fail
    go_loopw [1, 5] (fun l i wr => ∃ k : Nat, k ≤ n ∧ i = .int .i64 k ∧ l = .int .i64 (left - (n : Int) - (totT (ts.take k) : Nat)) ∧ Hid ((n : Int) + (totT (ts.take k) : Nat) ≤ left) ∧ Below w.heap.size w wr) (fun _ i _ => n - (intOf i).toNat)
    case atStart => exact ⟨0, Nat.zero_le _, rfl, by simp [totT], by have := HLE.out; simp [totT]; omega, Below.refl _ _⟩
    case round =>
      obtain ⟨k, hk, rfl, rfl, hsum, hbel⟩ := hrel
      by_cases hlt : k < n
      · obtain ⟨b, off, A', n', c', t, rfl, hb, ht, hc0, hc1, hin⟩ := (h.next hbel hB).at_ hlt
        have hs := totT_succ ht
        have hmx := HE.out t (List.mem_of_getElem? ht)
        rw [hin.1] at hs hmx
        have hsz := hbel.size
        have hfull := totT_take ts (k + 1)
        have HS := Lib.hid hs
        have hsum' := hsum.out
        have HSZ := Lib.hid (szTerm_c t.1 A' n' c' (left - (n : Int) - (totT (ts.take k) : Nat)) wr (by omega) (by omega) hmx)
        clear ht hs hin h1
        generalize totT (ts.take k) = T at HS HSZ hsum hsum' ⊢
        rcases Int.lt_or_le (left - n - T) n' with hq | hq
        · have HV : Hid (szv left (n + totT ts) = -1) := szv_no (by have := HS.out; omega)
          rw [szv_no hq] at HSZ
          clear hq hsum' hfull
          go_wp2_with fail
          refine HSZ.out.mono ?_
          rintro e w1 ⟨rfl, hb1⟩
          go_wp2_with fail
          go_ret
          exact ⟨ret_int HV.out.symm, hbel.trans (hb1.mono hsz)⟩
        · have HQ : Hid ((n : Int) + (totT (ts.take (k + 1)) : Nat) ≤ left) := by show _ ≤ _; have := HS.out; omega
          have HL : Hid (left - (n : Int) - T - n' = left - (n : Int) - (totT (ts.take (k + 1)) : Nat)) := by show _ = _; have := HS.out; omega
          rw [szv_yes hq] at HSZ
          have hp : 0 ≤ left - (n : Int) - T - n' := by omega
          clear hq hsum' hfull
          go_wp2_with fail
          refine HSZ.out.mono ?_
          rintro e w1 ⟨rfl, hb1⟩
          go_wp2_with fail
          go_roundw
          case rel => exact ⟨k + 1, by omega, by go_num, by rw [HL.out], HQ, hbel.trans (hb1.mono hsz)⟩
          case measure => simp [intOf]; omega
      · have HV : Hid (szv left (n + totT ts) = left - (n : Int) - (totT (ts.take k) : Nat)) := by
          show _ = _
          have hsum' := hsum.out
          rw [take_all (by have := hlen.out; omega)] at hsum' ⊢
          rw [szv_yes (by omega)]; omega
        go_wp2_with fail
        go_ret
        exact ⟨ret_int HV.out.symm, hbel⟩

/-- All of some terms are valid, and they are not too many. -/
def allT (most : Nat) (ts : List (Int × List Int)) : Bool := decide (∀ t ∈ ts, tmB t = true) && decide (ts.length ≤ most)
theorem allT_step {ts : List (Int × List Int)} {k : Nat} {t : Int × List Int} (h : ∀ u ∈ ts.take k, tmB u = true) (ht : ts[k]? = some t) (hv : tmB t = true) : ∀ u ∈ ts.take (k + 1), tmB u = true := by
  intro u hu
  rw [List.take_add_one, ht] at hu
  simp only [Option.toList, List.mem_append, List.mem_singleton] at hu
  rcases hu with hu | rfl
  · exact h u hu
  · exact hv
theorem allT_no {most : Nat} {ts : List (Int × List Int)} {k : Nat} {t : Int × List Int} (ht : ts[k]? = some t) (hv : tmB t = false) : allT most ts = false := by
  unfold allT
  rw [decide_eq_false (fun a => by have := a t (List.mem_of_getElem? ht); rw [hv] at this; cases this)]; rfl
theorem allT_yes {most : Nat} {ts : List (Int × List Int)} {k : Nat} (h : ∀ u ∈ ts.take k, tmB u = true) (hk : ts.length ≤ k) : allT most ts = decide (ts.length ≤ most) := by
  rw [take_all hk] at h
  unfold allT; rw [decide_eq_true h]; rfl
theorem allT_parts {most : Nat} {ts : List (Int × List Int)} (h : allT most ts = true) : (∀ t ∈ ts, tmB t = true) ∧ ts.length ≤ most := by
  unfold allT at h
  simp only [Bool.and_eq_true, decide_eq_true_eq] at h
  exact h

set_option maxRecDepth 100000 in
set_option maxHeartbeats 1000000 in
theorem l02All_c (A : Option Addr) (n c B : Nat) (ts : List (Int × List Int)) (most : Nat) (w : World) (h : InTS w B A n ts) (hn : n ≤ 1048576) (he : totT ts ≤ 1048576) :
    Calls Tryd.prog 124 #[.slice A n c, .int .i64 (most : Int)] w fun e w' => e = .returned (.bool (allT most ts)) ∧ w = w' := by
  have hlen := Lib.hid h.1
  go_enter Tryd.func124, Tryd.ntmps124
  go_wp2_with fail
  go_loop [5] (fun i => ∃ k : Nat, k ≤ n ∧ i = .int .i64 k ∧ Hid (∀ u ∈ ts.take k, tmB u = true)) (fun i => n - (intOf i).toNat)
  case atStart => exact ⟨0, Nat.zero_le _, rfl, fun u hu => by simp at hu⟩
  case round =>
    obtain ⟨k, hk, rfl, ha⟩ := hrel
    by_cases hlt : k < n
    · obtain ⟨b, off, A', n', c', t, rfl, hb, ht, hc0, hc1, hin⟩ := h.at_ hlt
      have hmx := totT_mem (List.mem_of_getElem? ht)
      rw [hin.1] at hmx
      have HI := Lib.hid (l02Is_c b (off + k * 2) t.1 A' n' c' B t.2 w hc0 hc1 hin.2 hin.1 (by omega))
      cases hv : tmB t with
      | true =>
        have HS := Lib.hid (allT_step ha.out ht hv)
        have HV : Hid (tmB (t.1, t.2) = true) := hv
        rw [HV.out] at HI
        clear hin ht hv hmx hc0 hc1
        go_wp2_with fail
        refine HI.out.mono ?_
        rintro e w1 ⟨rfl, rfl⟩
        go_wp2_with fail
        go_round
        case rel => exact ⟨k + 1, by omega, by go_num, HS⟩
        case measure => simp [intOf]; omega
      | false =>
        have HN := Lib.hid (allT_no (most := most) ht hv)
        have HV : Hid (tmB (t.1, t.2) = false) := hv
        rw [HV.out] at HI
        clear hin ht hv hmx hc0 hc1
        go_wp2_with fail
        refine HI.out.mono ?_
        rintro e w1 ⟨rfl, rfl⟩
        go_wp2_with fail
        go_ret
        exact ⟨ret_bool HN.out.symm, rfl⟩
    · have HY := Lib.hid (allT_yes (most := most) ha.out (by have := hlen.out; omega))
      go_wp2_with fail
      go_ret
      exact ⟨ret_bool (by rw [HY.out, hlen.out]), rfl⟩

set_option maxRecDepth 100000 in
set_option maxHeartbeats 1000000 in
theorem areTerms_c (A : Option Addr) (n c B : Nat) (ts : List (Int × List Int)) (most : Nat) (w : World) (h : InTS w B A n ts) (hB : B ≤ w.heap.size) (he : totT ts ≤ 1048576) (hm : most ≤ 1000) :
    Calls Tryd.prog 125 #[.slice A n c, .int .i64 (most : Int)] w fun e w' => e = .returned (.bool (allT most ts)) ∧ Below w.heap.size w w' := by
  have hlen := Lib.hid h.1
  by_cases hbig : most < n
  · have HN : Hid (allT most ts = false) := by show _ = _; unfold allT; rw [decide_eq_false (p := ts.length ≤ most) (by have := hlen.out; omega)]; simp
    go_enter Tryd.func125, Tryd.ntmps125
    go_wp2_with fail
    go_ret
    exact ⟨ret_bool HN.out.symm, Below.refl _ _⟩
  · go_enter Tryd.func125, Tryd.ntmps125
    go_wp2_with fail
    go_loopw [6, 13] (fun _ i wr => ∃ k : Nat, k ≤ n ∧ i = .int .i64 k ∧ Hid (∀ u ∈ ts.take k, tmB u = true) ∧ Below w.heap.size w wr) (fun _ i _ => n - (intOf i).toNat)
    case atStart => exact ⟨0, Nat.zero_le _, rfl, fun u hu => by simp at hu, Below.refl _ _⟩
    case round =>
      obtain ⟨k, hk, rfl, ha, hbel⟩ := hrel
      have hsz := hbel.size
      by_cases hlt : k < n
      · obtain ⟨b, off, A', n', c', t, rfl, hb, ht, hc0, hc1, hin⟩ := (h.next hbel hB).at_ hlt
        have hmx := totT_mem (List.mem_of_getElem? ht)
        rw [hin.1] at hmx
        have HI := Lib.hid (fun (o : Obj) => implValid_c t.1 A' n' c' B t.2 (wr.alloc o) (hin.next (bnew wr o) (by omega)).2 (Nat.le_trans (by omega) (bnew wr o).size) hin.1 (by omega))
        cases hv : tmB t with
        | true =>
          have HS := Lib.hid (allT_step ha.out ht hv)
          have HV : Hid (tmB (t.1, t.2) = true) := hv
          rw [HV.out] at HI
          clear hin ht hv hmx
          go_wp2_with fail
          refine (HI.out _).mono ?_
          rintro e w1 ⟨rfl, hb1⟩
          go_wp2_with fail
          go_roundw
          case rel => exact ⟨k + 1, by omega, by go_num, HS, bon (bon hbel (bnew _ _)) hb1⟩
          case measure => simp [intOf]; omega
        | false =>
          have HN := Lib.hid (allT_no (most := most) ht hv)
          have HV : Hid (tmB (t.1, t.2) = false) := hv
          rw [HV.out] at HI
          clear hin ht hv hmx
          go_wp2_with fail
          refine (HI.out _).mono ?_
          rintro e w1 ⟨rfl, hb1⟩
          go_wp2_with fail
          go_ret
          exact ⟨ret_bool HN.out.symm, bon (bon hbel (bnew _ _)) hb1⟩
      · have HY : Hid (allT most ts = true) := by
          show _ = _
          rw [allT_yes (most := most) ha.out (by have := hlen.out; omega)]; exact decide_eq_true (by have := hlen.out; omega)
        go_wp2_with fail
        go_ret
        exact ⟨ret_bool HY.out.symm, hbel⟩
end Go.Proofs.YtahlpjhhbcjfpaaDoor
