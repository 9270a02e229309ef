/-
  Lists of lists of numbers: what one that came in reads as; how the law counts and compares them. Conditions: at most 2^20 rows and numbers.
-/
import Derived.Test.YtopijecdhjnipaaBlk
import Derived.Test.YtopijecdhjnipaaTms
import Derived.Test.YtopijecdhjnipaaStK
import Derived.Test.YtopijecdhjnipaaInts
namespace Go.Proofs.Ytopijecdhjnipaa
set_option linter.unusedVariables false
open Go.RowKit Go.ChangeShapes Go.WideShapes Go.Deep Go.Joins

/-- Rows side by side where a slice's value leads, below block B. -/
def InLL (w : World) (B : Nat) (A : Option Addr) (n : Nat) (xs : List (List Int)) : Prop := xs.length = n ∧ ∀ j x, xs[j]? = some x → ∃ b off, A = some ⟨b, off, none⟩ ∧ b < B ∧ ∃ A0 n0 c0, w.cell? ⟨b, off + j, none⟩ = some (.slice A0 n0 c0) ∧ InL w B A0 n0 x
section
variable {w w' : World} {lo hi B B' : Nat} {A : Option Addr} {n : Nat} {xs : List (List Int)}
theorem InLL.next (h : InLL w B A n xs) (hb : Below B' w w') (hB : B ≤ B') : InLL w' B A n xs := ⟨h.1, fun j x hj => by
  obtain ⟨b, off, e, hlt, A0, n0, c0, hc, hl⟩ := h.2 j x hj
  exact ⟨b, off, e, hlt, A0, n0, c0, (hb.cell (p := ⟨b, off + j, none⟩) (by show b < B'; omega)).trans hc, hl.next hb hB⟩⟩
theorem InLL.more (h : InLL w B A n xs) (hB : B ≤ B') : InLL w B' A n xs := ⟨h.1, fun j x hj => by
  obtain ⟨b, off, e, hlt, A0, n0, c0, hc, hl⟩ := h.2 j x hj
  exact ⟨b, off, e, by omega, A0, n0, c0, hc, hl.more hB⟩⟩
theorem InLL.drew (h : InLL w B A n xs) : InLL w.drew B A n xs := h
theorem InLL.out (h : InLL w B A n xs) (ho : Out lo hi w w') (hB : B ≤ lo) (hs : B ≤ w.heap.size) : InLL w' B A n xs := h.next (ho.below hB hs) (Nat.le_refl _)
theorem InLL.call {w1 : World} (h : InLL w B A n xs) (hB : B ≤ w.heap.size) (hb : Below w.drew.heap.size w.drew w1) : InLL w1 B A n xs := h.next (bstep hb) hB
theorem InLL.at_ (h : InLL w B A n xs) {k : Nat} (hk : k < n) : ∃ b off x, A = some ⟨b, off, none⟩ ∧ b < B ∧ xs[k]? = some x ∧ ∃ A0 n0 c0, w.cell? ⟨b, off + k, none⟩ = some (.slice A0 n0 c0) ∧ InL w B A0 n0 x := by
  have hk' : k < xs.length := by rw [h.1]; exact hk
  obtain ⟨b, off, e, hlt, hs⟩ := h.2 k xs[k] (List.getElem?_eq_getElem hk')
  exact ⟨b, off, xs[k], e, hlt, List.getElem?_eq_getElem hk', hs⟩
end
def totLL (xs : List (List Int)) : Nat := (xs.map List.length).sum
theorem totLL_succ {xs : List (List Int)} {k : Nat} {x : List Int} (h : xs[k]? = some x) : totLL (xs.take (k + 1)) = totLL (xs.take k) + x.length := by
  unfold totLL; rw [List.take_add_one, h]; simp
theorem totLL_take (xs : List (List Int)) (k : Nat) : totLL (xs.take k) ≤ totLL xs := by
  have h : totLL xs = totLL (xs.take k) + totLL (xs.drop k) := by
    unfold totLL
    have := congrArg List.sum (List.take_append_drop k (xs.map List.length))
    rw [List.sum_append, ← List.map_take, ← List.map_drop] at this
    exact this.symm
  omega
theorem totLL_mem {xs : List (List Int)} {x : List Int} (h : x ∈ xs) : x.length ≤ totLL xs := by
  obtain ⟨k, hk⟩ := List.getElem?_of_mem h
  have h1 := totLL_succ hk
  have h2 := totLL_take xs (k + 1)
  omega
theorem totLL_cons (t : List Int) (ts : List (List Int)) : totLL (t :: ts) = t.length + totLL ts := by simp [totLL]
theorem fitsLL_of {xs : List (List Int)} (h : totLL xs ≤ maxLen) : ∀ x ∈ xs, x.length ≤ maxLen := fun x hx => Nat.le_trans (totLL_mem hx) h

/-! What came in. -/
section
variable {H : Type} {enc : TypeId × Value → H} {w : World} {held : Bool}
theorem cellsRow : Try.prog.cellsOf 35 = 1 := by kernel_rfl
set_option maxRecDepth 100000 in
theorem rows_in {fuel : Nat} {v : Value} {x : DataW H × List MemPlace} (h : DataW.trod enc Try.prog w 0 (fun _ => true) held fuel 22 [v] = some x) :
    ∃ (A : Option Addr) (n c : Nat) (xs : List (List Int)), v = .slice A n c ∧ n ≤ maxLen ∧ InLL w w.heap.size A n xs ∧ ∀ y ∈ xs, y.length ≤ maxLen := by
  rcases open_slice Try.underlying22 h with ⟨hcs, _⟩ | ⟨a, len, cap, m, n, D, Pl, hcs, _, hl, hm, hmm, _, hx⟩
  · obtain rfl : v = .slice none 0 0 := by simpa using hcs
    exact ⟨none, 0, 0, [], rfl, Nat.zero_le _, ⟨rfl, fun j y hj => by simp at hj⟩, fun y hy => by simp at hy⟩
  · obtain rfl : v = .slice (some a) len cap := by simpa using hcs
    rw [cellsRow] at hx
    have hm' : m = cap := by simpa using hmm
    obtain ⟨f, hf⟩ := choose_lt (α := List Int) (n := len) (p := fun i y => y.length ≤ maxLen ∧ ∃ (A0 : Option Addr) (n0 c0 : Nat),
        w.cell? ((a.add (i * 1)).add 0) = some (.slice A0 n0 c0) ∧ InL w w.heap.size A0 n0 y) (fun i hi => by
      obtain ⟨cs', hc, ht⟩ := hx i (by omega)
      obtain ⟨_, hlen, hat⟩ := World.cells?_some hc
      match cs', hlen with
      | [d], _ =>
        obtain ⟨A0, n0, c0, zs, rfl, a1, a2, a3, _⟩ := ints_in Try.underlying35 Try.underlying2 (by kernel_rfl) ht
        exact ⟨zs, by omega, A0, n0, c0, hat 0 (by omega), a1, a3⟩)
    refine ⟨some a, len, cap, (List.range len).map f, rfl, by omega, ⟨by simp, fun j y hj => ?_⟩, fun y hy => ?_⟩
    · have hjl : j < len := by
        have := (List.getElem?_eq_some_iff.1 hj).1
        simpa using this
      obtain rfl : f j = y := by simpa [hjl] using hj
      obtain ⟨_, A0, n0, c0, hq, hk⟩ := hf j hjl
      obtain ⟨_, _, _, _, gg, _⟩ := hf 0 (by omega)
      have hs : a.spot = none := by simpa [Addr.add] using World.cell?_spot gg
      obtain ⟨b, off, spot⟩ := a
      have hs' : spot = none := hs
      subst hs'
      rw [add_plain, Nat.mul_one] at hq
      exact ⟨b, off, rfl, cell_lt hq, A0, n0, c0, hq, hk⟩
    · obtain ⟨i, hi, rfl⟩ := List.mem_map.1 hy
      exact (hf i (by simpa using hi)).1
end

set_option maxRecDepth 100000 in
set_option maxHeartbeats 4000000 in
theorem szInt64SS_k (A : Option Addr) (n c B : Nat) (xs : List (List Int)) (left : Int) (w : World) (h : InLL w B A n xs) (hB : B ≤ w.heap.size) (hl0 : 0 ≤ left) (hl1 : left ≤ 1048576) (hn : n ≤ maxLen) (he : ∀ x ∈ xs, x.length ≤ maxLen) :
    Calls Try.prog 23 #[.slice A n c, .int .i64 left] w fun e w' => e = .returned (.int .i64 (szv left (n + totLL xs))) ∧ Below w.heap.size w w' := by
  have HE := Lib.hid he
  have hlen := Lib.hid h.1
  clear he
  unfold maxLen at hn
  rcases Int.lt_or_le left n with hlt | hle
  · have HV : Hid (szv left (n + totLL xs) = -1) := szv_no (by omega)
    have h1 : left - (n : Int) < 0 := by omega
    clear hlt
    go_enter Try.func23, Try.ntmps23
    go_wp2_with fail
    go_ret
    exact ⟨ret_int HV.out.symm, Below.refl _ _⟩
  · have h1 : 0 ≤ left - (n : Int) := by omega
    have HLE := Lib.hid hle
    clear hle
    go_enter Try.func23, Try.ntmps23
    go_wp2_with fail
    go_loopw [1, 5] (fun l i wr => ∃ k : Nat, k ≤ n ∧ i = .int .i64 k ∧ l = .int .i64 (left - (n : Int) - (totLL (xs.take k) : Nat)) ∧ Hid ((n : Int) + (totLL (xs.take k) : Nat) ≤ left) ∧ Below w.heap.size w wr) (fun _ i _ => n - (intOf i).toNat)
    case atStart => exact ⟨0, Nat.zero_le _, rfl, by simp [totLL], by have := HLE.out; simp [totLL]; omega, Below.refl _ _⟩
    case round =>
      obtain ⟨k, hk, rfl, rfl, hsum, hbel⟩ := hrel
      by_cases hlt : k < n
      · obtain ⟨b, off, x, rfl, hb, ht, A0, n0, c0, q0, k0⟩ := (h.next hbel hB).at_ hlt
        have hs := totLL_succ ht
        have hmx := HE.out x (List.mem_of_getElem? ht)
        have hx0 : x.length = n0 := k0.1
        have hsz := hbel.size
        have hfull := totLL_take xs (k + 1)
        have HS := Lib.hid hs
        have hsum' := hsum.out
        have HSZ := Lib.hid (szInt64S_k A0 n0 c0 (left - (n : Int) - (totLL (xs.take k) : Nat)) wr (by omega) (by omega) (by omega))
        clear ht hs k0 h1 hmx
        generalize totLL (xs.take k) = T at HS HSZ hsum hsum' ⊢
        rcases Int.lt_or_le (left - n - T) n0 with hq | hq
        · have HV : Hid (szv left (n + totLL xs) = -1) := szv_no (by have := HS.out; omega)
          rw [szv_no hq] at HSZ
          clear hq hsum' hfull hx0
          go_wp2_with fail
          refine HSZ.out.mono ?_
          rintro e w1 ⟨rfl, rfl⟩
          go_wp2_with fail
          go_ret
          exact ⟨ret_int HV.out.symm, hbel⟩
        · have HQ : Hid ((n : Int) + (totLL (xs.take (k + 1)) : Nat) ≤ left) := by show _ ≤ _; have := HS.out; omega
          have HL : Hid (left - (n : Int) - T - n0 = left - (n : Int) - (totLL (xs.take (k + 1)) : Nat)) := by show _ = _; have := HS.out; omega
          rw [szv_yes hq] at HSZ
          have hp : 0 ≤ left - (n : Int) - T - n0 := by omega
          clear hq hsum' hfull hx0
          go_wp2_with fail
          refine HSZ.out.mono ?_
          rintro e w1 ⟨rfl, rfl⟩
          go_wp2_with fail
          go_roundw
          case rel => exact ⟨k + 1, by omega, by go_num, by rw [HL.out], HQ, hbel⟩
          case measure => simp [intOf]; omega
      · have HV : Hid (szv left (n + totLL xs) = left - (n : Int) - (totLL (xs.take k) : Nat)) := by
          show _ = _
          have hsum' := hsum.out
          rw [take_all (by have := hlen.out; omega)] at hsum' ⊢
          rw [szv_yes (by omega)]; omega
        go_wp2_with fail
        go_ret
        exact ⟨ret_int HV.out.symm, hbel⟩

set_option maxRecDepth 100000 in
set_option maxHeartbeats 4000000 in
theorem eqInt64SS_k (A A' : Option Addr) (n c c' B B' : Nat) (xs : List (List Int)) (w : World) (h0 : InLL w B A n xs) (h0' : InLL w B' A' n xs) (hB : B ≤ w.heap.size) (hB' : B' ≤ w.heap.size) (hn : n ≤ 1048576) (he : totLL xs ≤ 1048576) :
    Calls Try.prog 29 #[.slice A n c, .slice A' n c'] w fun e w' => e = .returned (.bool true) ∧ Below w.heap.size w w' := by
  have h : InLL w w.heap.size A n xs := h0.more hB
  have h' : InLL w w.heap.size A' n xs := h0'.more hB'
  clear h0 h0'
  go_enter Try.func29, Try.ntmps29
  go_wp2_with fail
  go_loopw [5] (fun i wr => ∃ k : Nat, k ≤ n ∧ i = .int .i64 k ∧ Below w.heap.size w wr) (fun i _ => n - (intOf i).toNat)
  case atStart => exact ⟨0, Nat.zero_le _, rfl, Below.refl _ _⟩
  case round =>
    obtain ⟨k, hk, rfl, hbel⟩ := hrel
    have hsz := hbel.size
    by_cases hlt : k < n
    · obtain ⟨b, off, x, rfl, hb, ht, A0, n0, c0, q0, k0⟩ := (h.next hbel (Nat.le_refl _)).at_ hlt
      obtain ⟨b', off', x', rfl, hb', ht', Ab0, nb0, cb0, p0, g0⟩ := (h'.next hbel (Nat.le_refl _)).at_ hlt
      obtain rfl : x = x' := by rw [ht] at ht'; exact Option.some.inj ht'
      obtain rfl : n0 = nb0 := k0.1.symm.trans g0.1
      have hmx := totLL_mem (List.mem_of_getElem? ht)
      rw [k0.1] at hmx
      have HE := Lib.hid (eqInt64S_k A0 Ab0 n0 c0 cb0 w.heap.size w.heap.size x wr.drew k0.drew g0.drew hsz hsz (by omega))
      have i1 : (k : Int) < (n : Int) := by omega
      clear ht ht' k0 g0
      go_wp2_with fail
      go_region_held3 (fun w' => w'.cell? ⟨b, off + k, none⟩ = some (.slice A0 n0 c0) ∧ w'.cell? ⟨b', off' + k, none⟩ = some (.slice Ab0 n0 cb0))
        (first | go_keep | exact ⟨cell_on q0 hb9, cell_on p0 hb9⟩)
        (first | (go_at_call 20; refine HE.out.mono ?_; rintro e w9 ⟨rfl, hb9⟩))
      go_wp2_with fail
      go_roundw
      case rel => exact ⟨k + 1, by omega, by go_num, hbel.trans ((bstep hb9).mono hsz)⟩
      case measure => simp [intOf]; omega
    · go_wp2_with fail
      go_ret
      exact ⟨rfl, hbel⟩
end Go.Proofs.Ytopijecdhjnipaa
