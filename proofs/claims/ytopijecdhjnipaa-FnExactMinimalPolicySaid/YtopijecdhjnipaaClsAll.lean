/-
  eachOf with the closure of classes. Conditions: a policy with at most 1000 states.
-/
import Derived.Test.YtopijecdhjnipaaClsOne
import Derived.Test.YtopijecdhjnipaaRowsO
namespace Go.Proofs.Ytopijecdhjnipaa
set_option linter.unusedVariables false
open Go.RowKit

theorem rowsK_len (xs : List (List Int)) (cl : List Int) : ∀ k, (rowsK xs cl k).2.length = k
  | 0 => rfl
  | k + 1 => by show (_ ++ [_]).length = _; rw [List.length_append, rowsK_len xs cl k]; rfl
theorem rowsK_pre (xs : List (List Int)) (cl : List Int) (k : Nat) : ∀ d, (rowsK xs cl k).2 <+: (rowsK xs cl (k + d)).2
  | 0 => List.prefix_refl _
  | d + 1 => (rowsK_pre xs cl k d).trans (List.prefix_append _ _)
theorem rowsK_at {xs : List (List Int)} {cl : List Int} {k n : Nat} (h : k < n) : (rowsK xs cl n).2[k]? = some ((addR (bhL xs cl k) (rowsK xs cl k).1).idxOf (bhL xs cl k) : Int) := by
  obtain ⟨d, hd⟩ := Nat.exists_eq_add_of_le (show k + 1 ≤ n from h)
  obtain ⟨t, ht⟩ := rowsK_pre xs cl (k + 1) d
  rw [hd, ← ht]
  have hl := rowsK_len xs cl k
  rw [List.getElem?_append_left (by rw [rowsK_len]; omega)]
  show ((rowsK xs cl k).2 ++ [_])[k]? = _
  rw [List.getElem?_append_right (by omega), hl, Nat.sub_self]; rfl
theorem rowsK_small (xs : List (List Int)) (cl : List Int) : ∀ k, (rowsK xs cl k).1.length ≤ k
  | 0 => Nat.le_refl _
  | k + 1 => by
    show (addR _ _).length ≤ _
    have := rowsK_small xs cl k
    unfold addR
    split
    · omega
    · simp; omega

theorem own_turns {S : Nat → Prop} {w w' : World} {lo : Nat} {e : TypeId} {size n : Nat} {v : Value} {xs : List Value} (h : w.ownsRow lo e size v n xs) (ht : Turns S w w') (hS : ∀ k, v.ownBlock = some k → ¬ S k) : w'.ownsRow lo e size v n xs := by
  refine ⟨h.1, ?_⟩
  rcases h.2 with h1 | ⟨r, cap, cur, h1, h2, h3, h4⟩
  · exact .inl h1
  · have hlt : r < w.heap.size := (h.lt r (by rw [h1]; rfl)).2
    refine .inr ⟨r, cap, cur, h1, h2, ?_, h4⟩
    rw [ht.block r hlt (hS r (by rw [h1]; rfl))]; exact h3

set_option maxRecDepth 100000 in
set_option maxHeartbeats 4000000 in
theorem eachCls_c (xs : List (List Int)) (t : Nat) (cl : List Int) (bk g : Nat) (A0 : Option Addr) (n c0 : Nat) (Ac : Option Addr) (cc : Nat) (lo B B1 : Nat) (A : Option Addr) (c : Nat) (w : World)
    (ok : RectP xs) (hcl : ClsI xs t cl) (hn : n ≤ 1000) (hr : InLL w B1 A0 n xs) (hk : BlkIs w bk 35 #[.slice Ac n cc]) (hc : InL w B1 Ac n cl) (hB1 : B1 ≤ w.heap.size)
    (hW : WLR w g lo B A c none []) (hA : (Value.slice A 0 0).ownBlock = none) (hlo : lo ≤ w.heap.size) (hbg : bk ≠ g) (hgB : B1 ≤ g) :
    Calls Try.prog 56 #[.slice A0 n c0, .func (Fn.func 57) #[] #[.pointer (some ⟨bk, 0, none⟩), .pointer (some ⟨g, 0, none⟩)]] w fun e w' => ∃ gO, e = .returned (.slice (some ⟨gO, 0, none⟩) n n) ∧ w'.ownsRow w.heap.size 2 1 (.slice (some ⟨gO, 0, none⟩) n n) n ((rowsK xs cl n).2.map ic) ∧ (∃ A' c' mv' B', WLR w' g lo B' A' c' mv' (rowsK xs cl n).1) ∧ Turns (fun k => k = g) w w' := by
  obtain ⟨i0, hi, hz0, hz1, hz2⟩ := info_parts info64
  have hxn : xs.length = n := hr.1
  have HOK := Lib.hid ok
  have HCL := Lib.hid hcl
  have HR := Lib.hid hr
  have HC := Lib.hid hc
  have HK := Lib.hid hk
  have hbk := hk.lt
  have hgl := hW.box.lt
  go_enter Try.func56, Try.ntmps56
  go_wp2_with (at_make; refine wpList_make_full _ rfl _ _ 35 rfl w.heap.size 2 i0 (.int .i64 0) 1 Try.underlying35 hi hz0 hz1 .i64 .i64 _ _ n rfl rfl rfl rfl (by rw [hz2]; omega) (by unfold maxLen; omega) (Nat.le_refl _) ?_; intro w1 hown hgrow)
  have hb1 := (Below.refl w.heap.size w).grown hgrow (Nat.le_refl _) (fun _ h => by cases h)
  have hlt0 : w.heap.size < w1.heap.size := (hown.lt w.heap.size rfl).2
  have hT1 : Turns (fun k => k = g) w w1 := Turns.of_below hb1
  have hW1 : WLR w1 g lo (w1.heap.size + 3) A c none [] := by
    have h1 := hW.next (S := fun _ => False) (Turns.of_below hb1) (fun k _ e => e)
    exact ⟨h1.box, h1.glo, h1.row, (fun b e => by cases e), h1.nil⟩
  have hl0 : ∃ ys, w1.ownsRow w.heap.size 2 1 (.slice (some ⟨w.heap.size, 0, none⟩) n n) n ys ∧ ∀ j, j < 0 → ys[j]? = ((rowsK xs cl n).2.map ic)[j]? := ⟨_, hown, fun j hj => by omega⟩
  clear hgrow hown hW hr hc hk ok hcl
  go_loopw [6, 7, 13] (fun _ _ i wr => ∃ (k : Nat) (A : Option Addr) (c : Nat) (mv : Option Nat) (Bx : Nat), k ≤ n ∧ i = .int .i64 k ∧ (∃ ys, wr.ownsRow w.heap.size 2 1 (.slice (some ⟨w.heap.size, 0, none⟩) n n) n ys ∧ ∀ j, j < k → ys[j]? = ((rowsK xs cl n).2.map ic)[j]?) ∧ WLR wr g lo Bx A c mv (rowsK xs cl k).1 ∧ Hid (mv = none → (Value.slice A 0 0).ownBlock = none ∧ wr.heap.size + 2 < Bx) ∧ Hid (∀ q, wb g A mv q → q = g ∨ w.heap.size < q) ∧ Turns (fun k => k = g) w wr ∧ w.heap.size < wr.heap.size) (fun _ _ i _ => n - (intOf i).toNat)
  case atStart => exact ⟨0, A, c, none, w1.heap.size + 3, Nat.zero_le _, rfl, hl0, hW1, (fun _ => ⟨hA, by omega⟩), (fun q hq => by
    rcases hq with e | e | e
    · exact .inl e
    · rw [hA] at e; cases e
    · cases e), hT1, hlt0⟩
  case round =>
    clear hl0 hlt0 hb1 hW1 hT1
    obtain ⟨k, A, c, mv, Bx, hk, rfl, ⟨ys, hox, hl⟩, hW, hM, hQ, hT, hlt0⟩ := hrel
    have hbel : Below B1 w wr := hT.below (fun q e => by omega) hB1
    have hsw := hT.size
    by_cases hlt : k < n
    · obtain ⟨b, off, x, rfl, hb, hx, A1, n1, c1, q0, q1⟩ := (HR.out.next hbel (Nat.le_refl _)).at_ hlt
      have hx4 : n1 = 4 := by rw [← q1.1]; exact HOK.out.len x (List.mem_of_getElem? hx)
      subst hx4
      have hsm := rowsK_small xs cl k
      have HI := Lib.hid (classes1_c xs t k cl bk g A1 c1 Ac n cc lo Bx B1 A c mv (rowsK xs cl k).1 wr HOK.out HCL.out hxn hn hlt (by rw [show xs.getD k [] = x by rw [List.getD, hx]; rfl]; exact q1) (hT.blk HK.out hbg) (HC.out.next hbel (Nat.le_refl _)) (by omega) hW hM.out (by omega) (by omega))
      have HAT := Lib.hid (rowsK_at (xs := xs) (cl := cl) hlt)
      have HOX := Lib.hid hox
      have HL := Lib.hid hl
      clear hx q1 hox hl hW
      go_wp2_with fail
      refine HI.out.mono ?_
      rintro e w5 ⟨A', c', b', rfl, hW5, hT5, hn5⟩
      have hg0 : ∀ q, wb g A mv q → q ≠ w.heap.size := fun q h e => by rcases hQ.out q h with h' | h' <;> omega
      have hox2 := own_turns HOX.out hT5 (fun q hq h => by obtain rfl : w.heap.size = q := Option.some.inj hq; exact hg0 _ h rfl)
      have hs5 := hT5.size
      have hxl : ys.length = n * 1 := HOX.out.1
      have hc0 := hox2.cellAt k (by omega)
      rw [List.getElem?_eq_getElem (by omega)] at hc0
      have f0 := hox2.frozenAt k
      obtain ⟨V, hV⟩ : ∃ V : Int, ((addR (bhL xs cl k) (rowsK xs cl k).1).idxOf (bhL xs cl k) : Int) = V := ⟨_, rfl⟩
      have hAT := HAT.out
      rw [hV] at hAT ⊢
      have HAV := Lib.hid hAT
      have hst := Lib.hid (hox2.stored k (.int .i64 V)).1
      have hset : Turns (fun q => q = w.heap.size) w5 (w5.setCell ⟨w.heap.size, k, none⟩ (.int .i64 V)) := (Turns.refl _ _).set rfl
      have hW6 := Lib.hid (hW5.next hset (fun q hq e => by
        rcases hn5 q hq with h' | h'
        · exact hg0 q h' e
        · omega))
      have hQ6 : Hid (∀ q, wb g A' (some b') q → q = g ∨ w.heap.size < q) := fun q hq => by
        rcases hn5 q hq with h' | h'
        · exact hQ.out q h'
        · right; omega
      have hT6 := Lib.hid ((hT.trans hT5 (fun q hq h => by rcases hQ.out q h with h' | h'; exact h'; omega)).trans hset (fun q hq e => by omega))
      clear hAT hW5 hox2 hV hT5 hn5 hset
      go_wp2_with fail
      go_roundw
      case rel =>
        refine ⟨k + 1, A', c', some b', Bx, by omega, by go_num, ⟨_, hst.out, fun j hj => ?_⟩, hW6.out, (fun e => by cases e), hQ6, hT6.out, by simp; omega⟩
        rcases Nat.lt_or_ge j k with h' | h'
        · rw [List.getElem?_set_ne (by omega)]; exact HL.out j h'
        · obtain rfl : j = k := by omega
          rw [List.getElem?_set_self (by omega), List.getElem?_map, HAV.out]; rfl
      case measure => simp [intOf]; omega
    · obtain rfl : k = n := by omega
      have hxl : ys.length = k * 1 := hox.1
      have hys : ys = (rowsK xs cl k).2.map ic := by
        apply List.ext_getElem?
        intro j
        rcases Nat.lt_or_ge j k with h' | h'
        · exact hl j h'
        · rw [List.getElem?_eq_none (by omega), List.getElem?_eq_none (by rw [List.length_map, rowsK_len]; omega)]
      subst hys
      have HO := Lib.hid hox
      have HW := Lib.hid hW
      clear hox hl hW
      go_wp2_with fail
      go_ret
      exact ⟨_, rfl, HO.out, ⟨_, _, _, _, HW.out⟩, hT⟩
end Go.Proofs.Ytopijecdhjnipaa
