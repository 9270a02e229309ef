/-
  Lists of terms: what they hold, how the law counts, copies and compares them; whether all are valid. Conditions: at most 2^20 terms and coefficients.
-/
import Derived.Test.YtajmbnimdngjhaaGreatDoorTermK
import Derived.Test.YtajmbnimdngjhaaGreatDoorValid
import Derived.Test.YtajmbnimdngjhaaGreatDoorTms
import Derived.BigQuiet
import Derived.Deep.QuietTactic
namespace Go.Proofs.YtajmbnimdngjhaaGreatDoor
open Go.RowKit

/-- How many coefficients a list of terms holds. -/
def totT (ts : List (Int × List Int)) : Nat := (ts.map fun t => t.2.length).sum
theorem totT_succ {ts : List (Int × List Int)} {k : Nat} {t : Int × List Int} (h : ts[k]? = some t) : totT (ts.take (k + 1)) = totT (ts.take k) + t.2.length := by
  unfold totT; rw [List.take_add_one, h]; simp
theorem totT_take (ts : List (Int × List Int)) (k : Nat) : totT (ts.take k) ≤ totT ts := by
  have h : totT ts = totT (ts.take k) + totT (ts.drop k) := by
    unfold totT
    have := congrArg List.sum (List.take_append_drop k (ts.map fun t => t.2.length))
    rw [List.sum_append, ← List.map_take, ← List.map_drop] at this
    exact this.symm
  omega
theorem totT_mem {ts : List (Int × List Int)} {t : Int × List Int} (h : t ∈ ts) : t.2.length ≤ totT ts := by
  obtain ⟨k, hk⟩ := List.getElem?_of_mem h
  have h1 := totT_succ hk
  have h2 := totT_take ts (k + 1)
  omega
theorem each_of {ts : List (Int × List Int)} (h : totT ts ≤ 1048576) : ∀ t ∈ ts, t.2.length ≤ maxLen := fun t ht => by
  have := totT_mem ht
  unfold maxLen; omega
theorem take_all {α : Type} {ts : List α} {k : Nat} (h : ts.length ≤ k) : ts.take k = ts := List.take_of_length_le h

/-- Terms that a slice leads to, below block B. -/
def InTS (w : World) (B : Nat) (A : Option Addr) (n : Nat) (ts : List (Int × List Int)) : Prop := ts.length = n ∧ TRow w B A ts
section
variable {w w' : World} {lo hi B B' : Nat} {A : Option Addr} {n : Nat} {ts : List (Int × List Int)}
theorem InTS.next (h : InTS w B A n ts) (hb : Below B' w w') (hB : B ≤ B') : InTS w' B A n ts := ⟨h.1, h.2.below hb hB⟩
theorem InTS.more (h : InTS w B A n ts) (hB : B ≤ B') : InTS w B' A n ts := ⟨h.1, h.2.more hB⟩
theorem InTS.drew (h : InTS w B A n ts) : InTS w.drew B A n ts := h
theorem InTS.out (h : InTS w B A n ts) (ho : Out lo hi w w') (hB : B ≤ lo) (hs : B ≤ w.heap.size) : InTS w' B A n ts := h.next (ho.below hB hs) (Nat.le_refl _)
theorem InTS.call (h : InTS w B A n ts) (hB : B ≤ w.heap.size) (hb : Below w.drew.heap.size w.drew w') : InTS w' B A n ts := h.next (bstep hb) hB
theorem InTS.at_ (h : InTS w B A n ts) {k : Nat} (hk : k < n) : ∃ b off A' n' c' t, A = some ⟨b, off, none⟩ ∧ b < B ∧ ts[k]? = some t ∧ w.cell? ⟨b, off + k * 2, none⟩ = some (.int .i64 t.1) ∧ w.cell? ⟨b, off + k * 2 + 1, none⟩ = some (.slice A' n' c') ∧ InL w B A' n' t.2 := by
  have hk' : k < ts.length := by rw [h.1]; exact hk
  obtain ⟨b, off, A', n', c', e, hb, h1, h2, h3, h4⟩ := h.2 k ts[k] (List.getElem?_eq_getElem hk')
  exact ⟨b, off, A', n', c', ts[k], e, hb, List.getElem?_eq_getElem hk', h1, h2, h3, h4⟩
end

set_option maxRecDepth 100000 in
set_option maxHeartbeats 1000000 in
theorem szTermS_k (A : Option Addr) (n c B : Nat) (ts : List (Int × List Int)) (left : Int) (w : World) (h : InTS w B A n ts) (hB : B ≤ w.heap.size) (hl0 : 0 ≤ left) (hl1 : left ≤ 1048576) (hn : n ≤ maxLen) (he : ∀ t ∈ ts, t.2.length ≤ maxLen) :
    Calls Tryz.prog 31 #[.slice A n c, .int .i64 left] w fun e w' => e = .returned (.int .i64 (szv left (n + totT ts))) ∧ Below w.heap.size w w' := by
  have HE := Lib.hid he
  have hlen := Lib.hid h.1
  clear he
  unfold maxLen at hn
  rcases Int.lt_or_le left n with hlt | hle
  · have HV : Hid (szv left (n + totT ts) = -1) := szv_no (by omega)
    have h1 : left - (n : Int) < 0 := by omega
    clear hlt
    go_enter Tryz.func31, Tryz.ntmps31
    go_wp2_with fail
    go_ret
    exact ⟨ret_int HV.out.symm, Below.refl _ _⟩
  · have h1 : 0 ≤ left - (n : Int) := by omega
    have HLE := Lib.hid hle
    clear hle
    go_enter Tryz.func31, Tryz.ntmps31
    go_wp2_with fail
    go_loopw [1, 5] (fun l i wr => ∃ k : Nat, k ≤ n ∧ i = .int .i64 k ∧ l = .int .i64 (left - (n : Int) - (totT (ts.take k) : Nat)) ∧ Hid ((n : Int) + (totT (ts.take k) : Nat) ≤ left) ∧ Below w.heap.size w wr) (fun _ i _ => n - (intOf i).toNat)
    case atStart => exact ⟨0, Nat.zero_le _, rfl, by simp [totT], by have := HLE.out; simp [totT]; omega, Below.refl _ _⟩
    case round =>
      obtain ⟨k, hk, rfl, rfl, hsum, hbel⟩ := hrel
      by_cases hlt : k < n
      · obtain ⟨b, off, A', n', c', t, rfl, hb, ht, hc0, hc1, hin⟩ := (h.next hbel hB).at_ hlt
        have hs := totT_succ ht
        have hmx := HE.out t (List.mem_of_getElem? ht)
        rw [hin.1] at hs hmx
        have hsz := hbel.size
        have hfull := totT_take ts (k + 1)
        have HS := Lib.hid hs
        have hsum' := hsum.out
        have HSZ := Lib.hid (szTerm_c t.1 A' n' c' (left - (n : Int) - (totT (ts.take k) : Nat)) wr (by omega) (by omega) hmx)
        clear ht hs hin h1
        generalize totT (ts.take k) = T at HS HSZ hsum hsum' ⊢
        rcases Int.lt_or_le (left - n - T) n' with hq | hq
        · have HV : Hid (szv left (n + totT ts) = -1) := szv_no (by have := HS.out; omega)
          rw [szv_no hq] at HSZ
          clear hq hsum' hfull
          go_wp2_with fail
          refine HSZ.out.mono ?_
          rintro e w1 ⟨rfl, hb1⟩
          go_wp2_with fail
          go_ret
          exact ⟨ret_int HV.out.symm, hbel.trans (hb1.mono hsz)⟩
        · have HQ : Hid ((n : Int) + (totT (ts.take (k + 1)) : Nat) ≤ left) := by show _ ≤ _; have := HS.out; omega
          have HL : Hid (left - (n : Int) - T - n' = left - (n : Int) - (totT (ts.take (k + 1)) : Nat)) := by show _ = _; have := HS.out; omega
          rw [szv_yes hq] at HSZ
          have hp : 0 ≤ left - (n : Int) - T - n' := by omega
          clear hq hsum' hfull
          go_wp2_with fail
          refine HSZ.out.mono ?_
          rintro e w1 ⟨rfl, hb1⟩
          go_wp2_with fail
          go_roundw
          case rel => exact ⟨k + 1, by omega, by go_num, by rw [HL.out], HQ, hbel.trans (hb1.mono hsz)⟩
          case measure => simp [intOf]; omega
      · have HV : Hid (szv left (n + totT ts) = left - (n : Int) - (totT (ts.take k) : Nat)) := by
          show _ = _
          have hsum' := hsum.out
          rw [take_all (by have := hlen.out; omega)] at hsum' ⊢
          rw [szv_yes (by omega)]; omega
        go_wp2_with fail
        go_ret
        exact ⟨ret_int HV.out.symm, hbel⟩

/-- All of some terms are valid, and they are not too many. -/
def allT (most : Nat) (ts : List (Int × List Int)) : Bool := decide (∀ t ∈ ts, tmB t = true) && decide (ts.length ≤ most)
theorem allT_step {ts : List (Int × List Int)} {k : Nat} {t : Int × List Int} (h : ∀ u ∈ ts.take k, tmB u = true) (ht : ts[k]? = some t) (hv : tmB t = true) : ∀ u ∈ ts.take (k + 1), tmB u = true := by
  intro u hu
  rw [List.take_add_one, ht] at hu
  simp only [Option.toList, List.mem_append, List.mem_singleton] at hu
  rcases hu with hu | rfl
  · exact h u hu
  · exact hv
theorem allT_no {most : Nat} {ts : List (Int × List Int)} {k : Nat} {t : Int × List Int} (ht : ts[k]? = some t) (hv : tmB t = false) : allT most ts = false := by
  unfold allT
  rw [decide_eq_false (fun a => by have := a t (List.mem_of_getElem? ht); rw [hv] at this; cases this)]; rfl
theorem allT_yes {most : Nat} {ts : List (Int × List Int)} {k : Nat} (h : ∀ u ∈ ts.take k, tmB u = true) (hk : ts.length ≤ k) : allT most ts = decide (ts.length ≤ most) := by
  rw [take_all hk] at h
  unfold allT; rw [decide_eq_true h]; rfl
theorem allT_parts {most : Nat} {ts : List (Int × List Int)} (h : allT most ts = true) : (∀ t ∈ ts, tmB t = true) ∧ ts.length ≤ most := by
  unfold allT at h
  simp only [Bool.and_eq_true, decide_eq_true_eq] at h
  exact h

end Go.Proofs.YtajmbnimdngjhaaGreatDoor
