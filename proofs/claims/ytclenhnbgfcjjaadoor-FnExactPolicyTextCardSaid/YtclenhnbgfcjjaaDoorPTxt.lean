/-
  The text of a policy, in the model and in the program. Conditions: at most 2^20 rows and numbers; the table of the powers of ten lies as the library's text lays it.
-/
import Derived.Test.YtclenhnbgfcjjaaDoorPolV
import Derived.Test.YtclenhnbgfcjjaaDoorTrmP
import Derived.Shelf.Lay
import Derived.Shelf.Strings.OnBuilder
namespace Go.Proofs
open Go.Shelf
shelf_lay Lays.n156 Nm 156 at Tryd as Tryd.lays156
theorem Tryd.extra156 : Builder.Extra Tryd.prog Tryd.lays156_ren where
  sizeBuilder := by kernel_rfl
  liesBuilder := by kernel_rfl
  t5 := by kernel_rfl
  a5 := fun w => by kernel_rfl
  z5 := fun w => by kernel_rfl
  v5 := fun w => by kernel_rfl
  infoByte := by kernel_rfl
  cellsByte := by kernel_rfl
  sizeByte := by kernel_rfl
  neB5 := by decide
end Go.Proofs
namespace Go.Proofs.YtclenhnbgfcjjaaDoor
set_option linter.unusedVariables false
set_option linter.unusedSimpArgs false
open Go.RowKit

/-- The text of a state, of a row, of a policy. -/
def celL (z : Int) : List UInt8 := if z < 0 then [120] else Lib.itoa z
def rowL (r : List Int) : List UInt8 := Lib.join (r.map celL) [44]
def polL (xs : List (List Int)) : List UInt8 := Lib.join (xs.map rowL) [47]
theorem celL_len {z : Int} (h0 : -1 ≤ z) (h1 : z ≤ 1000000) : (celL z).length ≤ 21 := by
  unfold celL
  split
  · simp
  · exact Lib.itoa_length_le z (by omega) (by omega)
theorem join_snoc (l : List (List UInt8)) (x sep : List UInt8) (h : l ≠ []) : Lib.join (l ++ [x]) sep = Lib.join l sep ++ sep ++ x := by
  cases l with
  | nil => exact absurd rfl h
  | cons y l =>
    rw [List.cons_append, Lib.join_cons, Lib.join_cons]
    unfold Lib.joinTail
    simp
theorem join_len (sep : List UInt8) (m : Nat) : ∀ (l : List (List UInt8)), (∀ x ∈ l, x.length ≤ m) → (Lib.join l sep).length ≤ (m + sep.length) * l.length
  | [], _ => by simp [Lib.join_nil]
  | x :: l, h => by
    have h1 : ∀ (l : List (List UInt8)), (∀ x ∈ l, x.length ≤ m) → (Lib.joinTail sep l).length ≤ (m + sep.length) * l.length := by
      intro l
      induction l with
      | nil => intro _; simp [Lib.joinTail]
      | cons y l ih =>
        intro hh
        have a := ih (fun z hz => hh z (List.mem_cons_of_mem _ hz))
        have b := hh y List.mem_cons_self
        have e : Lib.joinTail sep (y :: l) = (sep ++ y) ++ Lib.joinTail sep l := by simp [Lib.joinTail]
        rw [e, List.length_append, List.length_append, List.length_cons, Nat.mul_add]
        omega
    have a := h1 l (fun z hz => h z (List.mem_cons_of_mem _ hz))
    have b := h x List.mem_cons_self
    rw [Lib.join_cons, List.length_append, List.length_cons, Nat.mul_add]
    omega
theorem rowL_len {r : List Int} (hl : r.length = 4) (h : ∀ z ∈ r, -1 ≤ z ∧ z ≤ 11) : (rowL r).length ≤ 88 := by
  have h1 := join_len [44] 21 (r.map celL) (fun x hx => by
    obtain ⟨z, hz, rfl⟩ := List.mem_map.1 hx
    exact celL_len (h z hz).1 (by have := (h z hz).2; omega))
  unfold rowL
  rw [List.length_map, hl] at h1
  simpa using h1
theorem polL_len {xs : List (List Int)} (ok : PolOk xs) : (polL xs).length ≤ 1068 := by
  have hi := ok.hi
  have h1 := join_len [47] 88 (xs.map rowL) (fun x hx => by
    obtain ⟨r, hr, rfl⟩ := List.mem_map.1 hx
    exact rowL_len (ok.len r hr) (fun z hz => by have := ok.num r hr z hz; omega))
  unfold polL
  rw [List.length_map] at h1
  simp at h1
  omega
/-- What the model's text holds ahead of row j, with its mark; and within it. -/
def hdL (xs : List (List Int)) (j : Nat) : List UInt8 := Lib.join ((xs.take j).map rowL) [47]
def rmL (j : Nat) : List UInt8 := if j = 0 then [] else [47]
def inL (r : List Int) (k : Nat) : List UInt8 := Lib.join ((r.take k).map celL) [44]
def cmL (k : Nat) : List UInt8 := if k = 0 then [] else [44]
theorem hdL_succ {xs : List (List Int)} {j : Nat} {r : List Int} (h : xs[j]? = some r) : hdL xs (j + 1) = hdL xs j ++ rmL j ++ rowL r := by
  unfold hdL rmL
  rw [List.take_add_one, h]
  by_cases hj : j = 0
  · subst hj; simp [Lib.join_one, Lib.join_nil]
  · rw [if_neg hj]
    have hl := (List.getElem?_eq_some_iff.1 h).1
    simp only [Option.toList_some, List.map_append, List.map_cons, List.map_nil]
    exact join_snoc _ _ _ (by intro e; have := congrArg List.length e; rw [List.length_map, List.length_take] at this; simp only [List.length_nil] at this; omega)
theorem inL_succ {r : List Int} {k : Nat} {z : Int} (h : r[k]? = some z) : inL r (k + 1) = inL r k ++ cmL k ++ celL z := by
  unfold inL cmL
  rw [List.take_add_one, h]
  by_cases hj : k = 0
  · subst hj; simp [Lib.join_one, Lib.join_nil]
  · rw [if_neg hj]
    have hl := (List.getElem?_eq_some_iff.1 h).1
    simp only [Option.toList_some, List.map_append, List.map_cons, List.map_nil]
    exact join_snoc _ _ _ (by intro e; have := congrArg List.length e; rw [List.length_map, List.length_take] at this; simp only [List.length_nil] at this; omega)
theorem inL_all {r : List Int} {k : Nat} (h : r.length ≤ k) : inL r k = rowL r := by unfold inL rowL; rw [List.take_of_length_le h]
theorem hdL_all {xs : List (List Int)} {j : Nat} (h : xs.length ≤ j) : hdL xs j = polL xs := by unfold hdL polL; rw [List.take_of_length_le h]

set_option maxRecDepth 100000 in
set_option maxHeartbeats 8000000 in
theorem l10Text_c (b o : Nat) (A : Option Addr) (n c B : Nat) (xs : List (List Int)) (w : World) (p0 : w.cell? ⟨b, o, none⟩ = some (.slice A n c)) (h : InLL w B A n xs) (hB : B ≤ w.heap.size) (ok : PolOk xs) :
    Calls Tryd.prog 11 #[.pointer (some ⟨b, o, none⟩)] w fun e w' => e = .returned (.string (strL (polL xs))) ∧ Below w.heap.size w w' := by
  have hlen := Lib.hid h.1
  have HX := Lib.hid h
  have HOK := Lib.hid ok
  have hn12 : n ≤ 12 := by have := ok.hi; have := h.1; omega
  clear h ok
  go_enter Tryd.func11, Tryd.ntmps11
  go_wp2_with fail
  go_loopw [3, 4, 5] (fun s i _ wr => ∃ (j : Nat) (T : ByteArray), j ≤ n ∧ i = .int .i64 j ∧ s = .string T ∧ T.size ≤ 100 * j ∧ Hid (T = strL (hdL xs j)) ∧ Below w.heap.size w wr) (fun _ i _ _ => n - (intOf i).toNat)
  case atStart => exact ⟨0, ⟨#[]⟩, Nat.zero_le _, rfl, rfl, Nat.zero_le _, rfl, Below.refl _ _⟩
  case round =>
    obtain ⟨j, T, hj, rfl, rfl, hTs, hT, hbel⟩ := hrel
    have d0 := cell_next p0 hbel
    by_cases hlt : j < n
    · have i1 : (j : Int) < (n : Int) := by omega
      obtain ⟨b1, off, x, hA, hb, hx, A0, n0, c0, hc0, hin0⟩ := HX.out.at_ hlt
      have hxm := List.mem_of_getElem? hx
      have hx4 : x.length = 4 := HOK.out.len x hxm
      have HXN := Lib.hid (HOK.out.num x hxm)
      have HXX := Lib.hid hx
      have HX4 := Lib.hid hx4
      clear hA hb hx A0 n0 c0 hc0 hin0 hxm hx4
      obtain ⟨T1, HT1, hT1⟩ : ∃ T1, Hid (T1 = T ++ strL (rmL j)) ∧ T1.size ≤ 100 * j + 1 := by
        refine ⟨_, rfl, ?_⟩
        rw [ByteArray.size_append, strL_size]
        unfold rmL
        split <;> simp <;> omega
      rcases Nat.eq_zero_or_pos j with h0 | h0
      · have e1 : T1 = T := by rw [HT1.out]; subst h0; apply ByteArray.ext; simp [rmL, strL, ByteArray.data_append]
        have i0 : ¬ (0 : Int) < (j : Int) := by omega
        have i0b : decide (0 < j) = false := decide_eq_false (by omega)
        rw [← e1] at hTs ⊢
        clear h0 e1
        go_wp2_with fail
        have hI0 : Hid (T1 = strL (hdL xs j ++ rmL j ++ inL x 0)) := by show _ = _; rw [HT1.out, hT.out]; apply ByteArray.ext; simp [strL, ByteArray.data_append, inL, Lib.join_nil]
        clear hT
        go_loopw [3, 5] (fun s k wr => ∃ (k0 : Nat) (T2 : ByteArray), k0 ≤ 4 ∧ k = .int .i64 k0 ∧ s = .string T2 ∧ T2.size ≤ 100 * j + 1 + 22 * k0 ∧ Hid (T2 = strL (hdL xs j ++ rmL j ++ inL x k0)) ∧ Below w.heap.size w wr) (fun _ k _ => 4 - (intOf k).toNat)
        case atStart => exact ⟨0, _, Nat.zero_le _, rfl, rfl, hT1, hI0, hbel⟩
        case round =>
          clear hbel d0 hI0
          obtain ⟨k, T2, hk, rfl, rfl, hT2s, hT2, hbel⟩ := hrel
          have d0 := cell_next p0 hbel
          by_cases hlt4 : k < 4
          · obtain ⟨b1, off1, A0, c0, b2, off2, rfl, q0, rfl, q1⟩ := (HX.out.next hbel hB).cell_at HOK.out (s := j) (e := k) hlt hlt4
            have i2 : (k : Int) < 4 := by omega
            obtain ⟨r, hr, _, hzz, hz1, hz2⟩ := HOK.out.at_ (s := j) (e := k) (by have := hlen.out; omega) hlt4
            obtain rfl : x = r := by have := HXX.out; rw [this] at hr; exact Option.some.inj hr
            have hz3 : nxP xs j k ≤ 11 := by have := hlen.out; omega
            generalize nxP xs j k = z at q1 hzz hz1 hz2 hz3
            have HZ := Lib.hid hzz
            have HD := Lib.hid (fun W => l01Dec_c z (by omega) (by omega) W)
            clear hzz hr
            by_cases hk0 : k = 0
            · by_cases hneg : z < 0
              · have e3 : cmL k = [] := if_pos hk0
                have T3 : Hid (inL x (k + 1) = inL x k ++ celL z) := by show _ = _; rw [inL_succ HZ.out, e3, List.append_nil]
                have i3 : ¬ (0 : Int) < (k : Int) := by omega
                have e4 : celL z = [120] := if_pos hneg
                have i4 : z < 0 := hneg
                have z4 : ¬ 9223372036854775807 < T2.size + 1 := by omega
                have HS : Hid (T2 ++ ⟨#[120]⟩ = strL (hdL xs j ++ rmL j ++ inL x (k + 1))) := by
                  show _ = _
                  rw [T3.out, hT2.out, e4]
                  apply ByteArray.ext; simp [strL, ByteArray.data_append]
                have HSS : (T2 ++ ⟨#[120]⟩).size ≤ 100 * j + 1 + 22 * (k + 1) := by
                  rw [ByteArray.size_append]
                  skip
                  have : (⟨#[120]⟩ : ByteArray).size = 1 := rfl
                  omega
                clear e3 T3 e4 hT2 hneg hk0
                go_wp2_with fail
                go_roundw
                case rel => exact ⟨k + 1, _, by omega, by go_num, rfl, HSS, HS, hbel⟩
                case measure => simp [intOf]; omega
              · have e3 : cmL k = [] := if_pos hk0
                have T3 : Hid (inL x (k + 1) = inL x k ++ celL z) := by show _ = _; rw [inL_succ HZ.out, e3, List.append_nil]
                have i3 : ¬ (0 : Int) < (k : Int) := by omega
                have e4 : celL z = Lib.itoa z := if_neg hneg
                have i4 : ¬ z < 0 := hneg
                have hsz4 : (strL (Lib.itoa z)).size ≤ 21 := by rw [strL_size]; exact Lib.itoa_length_le z (by omega) (by omega)
                have z4 : ¬ 9223372036854775807 < T2.size + (strL (Lib.itoa z)).size := by omega
                have HS : Hid (T2 ++ (strL (Lib.itoa z)) = strL (hdL xs j ++ rmL j ++ inL x (k + 1))) := by
                  show _ = _
                  rw [T3.out, hT2.out, e4]
                  apply ByteArray.ext; simp [strL, ByteArray.data_append]
                have HSS : (T2 ++ (strL (Lib.itoa z))).size ≤ 100 * j + 1 + 22 * (k + 1) := by
                  rw [ByteArray.size_append]
                  skip
                  skip
                  omega
                clear e3 T3 e4 hT2 hneg hk0
                go_wp2_with fail
                refine (HD.out wr).mono ?_
                rintro e w2 ⟨rfl, hb2⟩
                go_wp2_with fail
                go_roundw
                case rel => exact ⟨k + 1, _, by omega, by go_num, rfl, HSS, HS, bon hbel hb2⟩
                case measure => simp [intOf]; omega
            · by_cases hneg : z < 0
              · have e3 : cmL k = [44] := if_neg hk0
                have T3 : Hid (inL x (k + 1) = inL x k ++ [44] ++ celL z) := by show _ = _; rw [inL_succ HZ.out, e3]
                have i3 : (0 : Int) < (k : Int) := by omega
                have z3 : ¬ 9223372036854775807 < T2.size + 1 := by omega
                have e4 : celL z = [120] := if_pos hneg
                have i4 : z < 0 := hneg
                have z4 : ¬ 9223372036854775807 < T2.size + 1 + 1 := by omega
                have HS : Hid ((T2 ++ ⟨#[44]⟩) ++ ⟨#[120]⟩ = strL (hdL xs j ++ rmL j ++ inL x (k + 1))) := by
                  show _ = _
                  rw [T3.out, hT2.out, e4]
                  apply ByteArray.ext; simp [strL, ByteArray.data_append]
                have HSS : ((T2 ++ ⟨#[44]⟩) ++ ⟨#[120]⟩).size ≤ 100 * j + 1 + 22 * (k + 1) := by
                  rw [ByteArray.size_append, ByteArray.size_append]
                  have : (⟨#[44]⟩ : ByteArray).size = 1 := rfl
                  have : (⟨#[120]⟩ : ByteArray).size = 1 := rfl
                  omega
                clear e3 T3 e4 hT2 hneg hk0
                go_wp2_with fail
                go_roundw
                case rel => exact ⟨k + 1, _, by omega, by go_num, rfl, HSS, HS, hbel⟩
                case measure => simp [intOf]; omega
              · have e3 : cmL k = [44] := if_neg hk0
                have T3 : Hid (inL x (k + 1) = inL x k ++ [44] ++ celL z) := by show _ = _; rw [inL_succ HZ.out, e3]
                have i3 : (0 : Int) < (k : Int) := by omega
                have z3 : ¬ 9223372036854775807 < T2.size + 1 := by omega
                have e4 : celL z = Lib.itoa z := if_neg hneg
                have i4 : ¬ z < 0 := hneg
                have hsz4 : (strL (Lib.itoa z)).size ≤ 21 := by rw [strL_size]; exact Lib.itoa_length_le z (by omega) (by omega)
                have z4 : ¬ 9223372036854775807 < T2.size + 1 + (strL (Lib.itoa z)).size := by omega
                have HS : Hid ((T2 ++ ⟨#[44]⟩) ++ (strL (Lib.itoa z)) = strL (hdL xs j ++ rmL j ++ inL x (k + 1))) := by
                  show _ = _
                  rw [T3.out, hT2.out, e4]
                  apply ByteArray.ext; simp [strL, ByteArray.data_append]
                have HSS : ((T2 ++ ⟨#[44]⟩) ++ (strL (Lib.itoa z))).size ≤ 100 * j + 1 + 22 * (k + 1) := by
                  rw [ByteArray.size_append, ByteArray.size_append]
                  have : (⟨#[44]⟩ : ByteArray).size = 1 := rfl
                  skip
                  omega
                clear e3 T3 e4 hT2 hneg hk0
                go_wp2_with fail
                refine (HD.out wr).mono ?_
                rintro e w2 ⟨rfl, hb2⟩
                go_wp2_with fail
                go_roundw
                case rel => exact ⟨k + 1, _, by omega, by go_num, rfl, HSS, HS, bon hbel hb2⟩
                case measure => simp [intOf]; omega
          · have hk4 : k = 4 := by omega
            subst hk4
            have HR : Hid (T2 = strL (hdL xs (j + 1))) := by show _ = _; rw [hT2.out, hdL_succ HXX.out, inL_all (by have := HX4.out; omega)]
            clear hT2
            go_wp2_with fail
            go_roundw
            case rel => exact ⟨j + 1, _, by omega, by go_num, rfl, by omega, HR, hbel⟩
            case measure => simp [intOf]; omega
      · have e1 : T ++ ⟨#[47]⟩ = T1 := by rw [HT1.out]; unfold rmL; rw [if_neg (by omega)]; rfl
        have i0 : (0 : Int) < (j : Int) := by omega
        have i0b : decide (0 < j) = true := decide_eq_true h0
        have z1 : ¬ 9223372036854775807 < T.size + 1 := by omega
        clear h0
        go_wp2_with fail
        have hI0 : Hid (T1 = strL (hdL xs j ++ rmL j ++ inL x 0)) := by show _ = _; rw [HT1.out, hT.out]; apply ByteArray.ext; simp [strL, ByteArray.data_append, inL, Lib.join_nil]
        clear hT
        go_loopw [3, 5] (fun s k wr => ∃ (k0 : Nat) (T2 : ByteArray), k0 ≤ 4 ∧ k = .int .i64 k0 ∧ s = .string T2 ∧ T2.size ≤ 100 * j + 1 + 22 * k0 ∧ Hid (T2 = strL (hdL xs j ++ rmL j ++ inL x k0)) ∧ Below w.heap.size w wr) (fun _ k _ => 4 - (intOf k).toNat)
        case atStart => exact ⟨0, _, Nat.zero_le _, rfl, rfl, hT1, hI0, hbel⟩
        case round =>
          clear hbel d0 hI0
          obtain ⟨k, T2, hk, rfl, rfl, hT2s, hT2, hbel⟩ := hrel
          have d0 := cell_next p0 hbel
          by_cases hlt4 : k < 4
          · obtain ⟨b1, off1, A0, c0, b2, off2, rfl, q0, rfl, q1⟩ := (HX.out.next hbel hB).cell_at HOK.out (s := j) (e := k) hlt hlt4
            have i2 : (k : Int) < 4 := by omega
            obtain ⟨r, hr, _, hzz, hz1, hz2⟩ := HOK.out.at_ (s := j) (e := k) (by have := hlen.out; omega) hlt4
            obtain rfl : x = r := by have := HXX.out; rw [this] at hr; exact Option.some.inj hr
            have hz3 : nxP xs j k ≤ 11 := by have := hlen.out; omega
            generalize nxP xs j k = z at q1 hzz hz1 hz2 hz3
            have HZ := Lib.hid hzz
            have HD := Lib.hid (fun W => l01Dec_c z (by omega) (by omega) W)
            clear hzz hr
            by_cases hk0 : k = 0
            · by_cases hneg : z < 0
              · have e3 : cmL k = [] := if_pos hk0
                have T3 : Hid (inL x (k + 1) = inL x k ++ celL z) := by show _ = _; rw [inL_succ HZ.out, e3, List.append_nil]
                have i3 : ¬ (0 : Int) < (k : Int) := by omega
                have e4 : celL z = [120] := if_pos hneg
                have i4 : z < 0 := hneg
                have z4 : ¬ 9223372036854775807 < T2.size + 1 := by omega
                have HS : Hid (T2 ++ ⟨#[120]⟩ = strL (hdL xs j ++ rmL j ++ inL x (k + 1))) := by
                  show _ = _
                  rw [T3.out, hT2.out, e4]
                  apply ByteArray.ext; simp [strL, ByteArray.data_append]
                have HSS : (T2 ++ ⟨#[120]⟩).size ≤ 100 * j + 1 + 22 * (k + 1) := by
                  rw [ByteArray.size_append]
                  skip
                  have : (⟨#[120]⟩ : ByteArray).size = 1 := rfl
                  omega
                clear e3 T3 e4 hT2 hneg hk0
                go_wp2_with fail
                go_roundw
                case rel => exact ⟨k + 1, _, by omega, by go_num, rfl, HSS, HS, hbel⟩
                case measure => simp [intOf]; omega
              · have e3 : cmL k = [] := if_pos hk0
                have T3 : Hid (inL x (k + 1) = inL x k ++ celL z) := by show _ = _; rw [inL_succ HZ.out, e3, List.append_nil]
                have i3 : ¬ (0 : Int) < (k : Int) := by omega
                have e4 : celL z = Lib.itoa z := if_neg hneg
                have i4 : ¬ z < 0 := hneg
                have hsz4 : (strL (Lib.itoa z)).size ≤ 21 := by rw [strL_size]; exact Lib.itoa_length_le z (by omega) (by omega)
                have z4 : ¬ 9223372036854775807 < T2.size + (strL (Lib.itoa z)).size := by omega
                have HS : Hid (T2 ++ (strL (Lib.itoa z)) = strL (hdL xs j ++ rmL j ++ inL x (k + 1))) := by
                  show _ = _
                  rw [T3.out, hT2.out, e4]
                  apply ByteArray.ext; simp [strL, ByteArray.data_append]
                have HSS : (T2 ++ (strL (Lib.itoa z))).size ≤ 100 * j + 1 + 22 * (k + 1) := by
                  rw [ByteArray.size_append]
                  skip
                  skip
                  omega
                clear e3 T3 e4 hT2 hneg hk0
                go_wp2_with fail
                refine (HD.out wr).mono ?_
                rintro e w2 ⟨rfl, hb2⟩
                go_wp2_with fail
                go_roundw
                case rel => exact ⟨k + 1, _, by omega, by go_num, rfl, HSS, HS, bon hbel hb2⟩
                case measure => simp [intOf]; omega
            · by_cases hneg : z < 0
              · have e3 : cmL k = [44] := if_neg hk0
                have T3 : Hid (inL x (k + 1) = inL x k ++ [44] ++ celL z) := by show _ = _; rw [inL_succ HZ.out, e3]
                have i3 : (0 : Int) < (k : Int) := by omega
                have z3 : ¬ 9223372036854775807 < T2.size + 1 := by omega
                have e4 : celL z = [120] := if_pos hneg
                have i4 : z < 0 := hneg
                have z4 : ¬ 9223372036854775807 < T2.size + 1 + 1 := by omega
                have HS : Hid ((T2 ++ ⟨#[44]⟩) ++ ⟨#[120]⟩ = strL (hdL xs j ++ rmL j ++ inL x (k + 1))) := by
                  show _ = _
                  rw [T3.out, hT2.out, e4]
                  apply ByteArray.ext; simp [strL, ByteArray.data_append]
                have HSS : ((T2 ++ ⟨#[44]⟩) ++ ⟨#[120]⟩).size ≤ 100 * j + 1 + 22 * (k + 1) := by
                  rw [ByteArray.size_append, ByteArray.size_append]
                  have : (⟨#[44]⟩ : ByteArray).size = 1 := rfl
                  have : (⟨#[120]⟩ : ByteArray).size = 1 := rfl
                  omega
                clear e3 T3 e4 hT2 hneg hk0
                go_wp2_with fail
                go_roundw
                case rel => exact ⟨k + 1, _, by omega, by go_num, rfl, HSS, HS, hbel⟩
                case measure => simp [intOf]; omega
              · have e3 : cmL k = [44] := if_neg hk0
                have T3 : Hid (inL x (k + 1) = inL x k ++ [44] ++ celL z) := by show _ = _; rw [inL_succ HZ.out, e3]
                have i3 : (0 : Int) < (k : Int) := by omega
                have z3 : ¬ 9223372036854775807 < T2.size + 1 := by omega
                have e4 : celL z = Lib.itoa z := if_neg hneg
                have i4 : ¬ z < 0 := hneg
                have hsz4 : (strL (Lib.itoa z)).size ≤ 21 := by rw [strL_size]; exact Lib.itoa_length_le z (by omega) (by omega)
                have z4 : ¬ 9223372036854775807 < T2.size + 1 + (strL (Lib.itoa z)).size := by omega
                have HS : Hid ((T2 ++ ⟨#[44]⟩) ++ (strL (Lib.itoa z)) = strL (hdL xs j ++ rmL j ++ inL x (k + 1))) := by
                  show _ = _
                  rw [T3.out, hT2.out, e4]
                  apply ByteArray.ext; simp [strL, ByteArray.data_append]
                have HSS : ((T2 ++ ⟨#[44]⟩) ++ (strL (Lib.itoa z))).size ≤ 100 * j + 1 + 22 * (k + 1) := by
                  rw [ByteArray.size_append, ByteArray.size_append]
                  have : (⟨#[44]⟩ : ByteArray).size = 1 := rfl
                  skip
                  omega
                clear e3 T3 e4 hT2 hneg hk0
                go_wp2_with fail
                refine (HD.out wr).mono ?_
                rintro e w2 ⟨rfl, hb2⟩
                go_wp2_with fail
                go_roundw
                case rel => exact ⟨k + 1, _, by omega, by go_num, rfl, HSS, HS, bon hbel hb2⟩
                case measure => simp [intOf]; omega
          · have hk4 : k = 4 := by omega
            subst hk4
            have HR : Hid (T2 = strL (hdL xs (j + 1))) := by show _ = _; rw [hT2.out, hdL_succ HXX.out, inL_all (by have := HX4.out; omega)]
            clear hT2
            go_wp2_with fail
            go_roundw
            case rel => exact ⟨j + 1, _, by omega, by go_num, rfl, by omega, HR, hbel⟩
            case measure => simp [intOf]; omega
    · have e : j = n := by omega
      subst e
      have HN : Hid (T = strL (polL xs)) := by show _ = _; rw [hT.out, hdL_all (by have := hlen.out; omega)]
      have i1 : ¬ (j : Int) < (j : Int) := by omega
      go_wp2_with fail
      go_ret
      exact ⟨congrArg (fun s => Ending.returned (Value.string s)) HN.out, hbel⟩

/-- PolicyText's answer. -/
def ptR (xs : List (List Int)) : ByteArray × Bool := if polB xs = true then (strL (polL xs), true) else (⟨#[]⟩, false)
theorem ptR_yes {xs : List (List Int)} (h : polB xs = true) : ptR xs = (strL (polL xs), true) := if_pos h
theorem ptR_no {xs : List (List Int)} (h : polB xs = false) : ptR xs = (⟨#[]⟩, false) := if_neg (by rw [h]; decide)

set_option maxRecDepth 100000 in
set_option maxHeartbeats 2000000 in
theorem specPText_c (A : Option Addr) (n c B : Nat) (xs : List (List Int)) (w : World) (h : InLL w B A n xs) (hB : B ≤ w.heap.size) (hn : n ≤ 1048576) :
    Calls Tryd.prog 5 #[.agg #[.slice A n c]] w fun e w' => e = .returned (.tuple #[.string (ptR xs).1, .bool (ptR xs).2]) ∧ Below w.heap.size w w' := by
  have hb0 := bnew w (.cells #[.slice A n c] 28)
  have p0 : (w.alloc (.cells #[.slice A n c] 28)).cell? ⟨w.heap.size, 0, none⟩ = some (.slice A n c) := by simp
  have hX := h.next hb0 hB
  have HS0 := l10Is_c w.heap.size 0 A n c B xs _ p0 hX hn
  cases hv : polB xs with
  | false =>
    rw [ptR_no hv]
    rw [hv] at HS0
    have HS := Lib.hid HS0
    clear HS0 hv h hX
    go_enter Tryd.func5, Tryd.ntmps5
    go_wp2_with fail
    refine HS.out.mono ?_
    rintro e w1 ⟨rfl, rfl⟩
    go_wp2_with fail
    go_ret2
    exact ⟨rfl, hb0⟩
  | true =>
    rw [ptR_yes hv]
    rw [hv] at HS0
    have HS := Lib.hid HS0
    have HT := Lib.hid (l10Text_c w.heap.size 0 A n c B xs _ p0 hX (Nat.le_trans hB hb0.size) (polOk_of hv))
    clear HS0 hv h hX
    go_enter Tryd.func5, Tryd.ntmps5
    go_wp2_with fail
    refine HS.out.mono ?_
    rintro e w1 ⟨rfl, rfl⟩
    go_wp2_with fail
    refine HT.out.mono ?_
    rintro e w1 ⟨rfl, hb1⟩
    go_wp2_with fail
    go_ret2
    exact ⟨rfl, bon hb0 hb1⟩

set_option maxRecDepth 100000 in
theorem stateText_c (z : Int) (h0 : -1 ≤ z) (h1 : z ≤ 11) (w : World) (hT : Tab10 w) :
    Calls Tryd.prog 28 #[.int .i64 z] w fun e w' => e = .returned (.string (strL (celL z))) ∧ Below w.heap.size w w' := by
  by_cases hz : z = -1
  · subst hz
    go_enter Tryd.func28, Tryd.ntmps28
    go_wp2_with fail
    go_ret
    exact ⟨rfl, Below.refl _ _⟩
  · have e1 : Hid (celL z = Lib.itoa z) := if_neg (by omega)
    have q1 : (z == -1) = false := by simpa using hz
    have HD : Hid (Calls Tryd.prog 32 #[.int .i64 z] w fun e w' => e = .returned (.string (strL (Lib.itoa z))) ∧ Below w.heap.size w w') :=
      (decimal_c z (by omega) (by omega) w hT).mono fun e w' hh => ⟨hh.1, by obtain ⟨_, k, os, hw⟩ := hh; rw [hw]; exact Lib.below_grow _ _ (Nat.le_refl _) k os⟩
    clear hT
    go_enter Tryd.func28, Tryd.ntmps28
    go_wp2_with fail
    refine HD.out.mono ?_
    rintro e w1 ⟨rfl, hb1⟩
    go_wp2_with fail
    go_ret
    exact ⟨by rw [e1.out]; rfl, hb1⟩

theorem infoStrP : (Tryd.prog.info? 9).map (fun i => (i.zero, i.size, i.bytes)) = some (some (.string ByteArray.empty), 1, 16) := by kernel_rfl

set_option maxRecDepth 100000 in
set_option maxHeartbeats 4000000 in
/-- The texts of states, in a row of the call's own. -/
theorem eachState_c (A : Option Addr) (n c B : Nat) (zs : List Int) (w : World) (hT : Tab10 w) (h : InL w B A n zs) (hB : B ≤ w.heap.size) (hn : n ≤ 100) (hp : ∀ z ∈ zs, -1 ≤ z ∧ z ≤ 11) :
    Calls Tryd.prog 27 #[.slice A n c, .func (Fn.func 28) #[] #[]] w fun e w' => ∃ g, e = .returned (.slice (some ⟨g, 0, none⟩) n n) ∧ w'.ownsRow w.heap.size 9 1 (.slice (some ⟨g, 0, none⟩) n n) n (zs.map fun z => Value.string (strL (celL z))) ∧ Below w.heap.size w w' := by
  obtain ⟨i0, hi, hz0, hz1, hz2⟩ := info_parts infoStrP
  have HL := Lib.hid h.1
  have HX := Lib.hid h
  have HP := Lib.hid hp
  have HTT := Lib.hid hT
  clear h hp hT
  go_enter Tryd.func27, Tryd.ntmps27
  go_wp2_with (at_make; refine wpList_make_full _ rfl _ _ 39 rfl w.heap.size 9 i0 (.string ByteArray.empty) 1 Tryd.underlying39 hi hz0 hz1 .i64 .i64 _ _ n rfl rfl rfl rfl (by rw [hz2]; omega) (by unfold maxLen; omega) (Nat.le_refl _) ?_; intro w1 hown hgrow)
  rw [copy_start n (zs.map fun z => Value.string (strL (celL z)))] at hown
  have hb1 := (Below.refl w.heap.size w).grown hgrow (Nat.le_refl _) (fun _ h => by cases h)
  clear hgrow
  go_loopw [6, 7, 13] (fun _ _ i wr => ∃ k : Nat, k ≤ n ∧ i = .int .i64 k ∧ wr.ownsRow w.heap.size 9 1 (.slice (some ⟨w.heap.size, 0, none⟩) n n) n ((zs.map fun z => Value.string (strL (celL z))).take k ++ List.replicate (n - k) (.string ByteArray.empty)) ∧ Below w.heap.size w wr) (fun _ _ i _ => n - (intOf i).toNat)
  case atStart => exact ⟨0, Nat.zero_le _, rfl, hown, hb1⟩
  case round =>
    clear hown hb1
    obtain ⟨k, hk, rfl, hown, hbel⟩ := hrel
    by_cases hlt : k < n
    · obtain ⟨b, off, z, rfl, hb, hx, hc⟩ := (HX.out.next hbel hB).2.int_at (k := k) (by have := HL.out; omega)
      have hzz := HP.out z (List.mem_of_getElem? hx)
      have HC := Lib.hid (stateText_c z hzz.1 hzz.2 wr (HTT.out.next hbel))
      have hst0 := Lib.hid (copy_step (n := n) (k := k) (xs := zs.map fun z => Value.string (strL (celL z))) (z := .string ByteArray.empty) (x := .string (strL (celL z))) (by simpa using HL.out) hlt (by simp [hx]))
      have hul : k < ((zs.map fun z => Value.string (strL (celL z))).take k ++ List.replicate (n - k) (Value.string ByteArray.empty)).length := by have := HL.out; simp; omega
      have hsz := hbel.size
      generalize (zs.map fun z => Value.string (strL (celL z))).take k ++ List.replicate (n - k) (Value.string ByteArray.empty) = ys at hown hul hst0
      clear hx hzz
      go_wp2_with fail
      refine HC.out.mono ?_
      rintro e w2 ⟨rfl, hb12⟩
      have hown1 := own_below hown hb12
      have hfz := hown1.frozenAt k
      have hcl := hown1.cellAt k (by omega)
      rw [List.getElem?_eq_getElem hul] at hcl
      have hst := Lib.hid (hown1.stored k (.string (strL (celL z))))
      clear hown1 hown
      go_wp2_with fail
      go_roundw
      case rel => exact ⟨k + 1, by omega, by go_num, by rw [hst0.out] at hst; exact hst.out.1, (hbel.trans (hb12.mono hsz)).setCell (p := ⟨w.heap.size, k, none⟩) (Nat.le_refl _) _⟩
      case measure => simp [intOf]; omega
    · have e : k = n := by omega
      subst e
      have HO := Lib.hid hown
      clear hown
      go_wp2_with fail
      go_ret
      exact ⟨_, rfl, by have := HO.out; rw [copy_end (by simpa using HL.out)] at this; exact this, hbel⟩

theorem map_strL (l : List (List UInt8)) : (l.map strL).map (·.data.toList) = l := by
  rw [List.map_map]
  have : ((fun s : ByteArray => s.data.toList) ∘ strL) = id := funext fun x => strL_toList x
  rw [this, List.map_id]
/-- Texts side by side, joined. -/
theorem joined_c (g n B : Nat) (ls : List (List UInt8)) (sep : UInt8) (w : World) (hl : ls.length = n) (h : w.ownsRow B 9 1 (.slice (some ⟨g, 0, none⟩) n n) n (ls.map fun l => Value.string (strL l))) (hn : n ≤ 1000) (hlen : (Lib.join ls [sep]).length ≤ 100000) :
    Calls Tryd.prog 14 #[.slice (some ⟨g, 0, none⟩) n n, .string ⟨#[sep]⟩] w fun e w' => e = .returned (.string (strL (Lib.join ls [sep]))) ∧ Below w.heap.size w w' := by
  have e : ((ls.map strL).map (·.data.toList)) = ls := map_strL ls
  have hJ := Any.strings_Join Tryd.lays156 Tryd.extra156 g 0 n (ls.map strL) ⟨#[sep]⟩ w (fun j x hj => by
      have hjl : j < ls.length := by have := (List.getElem?_eq_some_iff.1 hj).1; simpa using this
      have hc := h.cellAt j (by omega)
      rw [Nat.zero_add]
      refine hc.trans ?_
      rw [List.getElem?_map] at hj ⊢
      rw [List.getElem?_eq_getElem hjl] at hj ⊢
      simp at hj ⊢
      exact hj) (h.lt g rfl).2 (by rw [List.length_map]; omega) (by rw [List.length_map]; omega) (by rw [e]; show (Lib.join ls [sep]).length ≤ _; omega)
  rw [e, List.length_map, hl] at hJ
  exact hJ

set_option maxRecDepth 100000 in
set_option maxHeartbeats 2000000 in
theorem rowText_c (A : Option Addr) (c B : Nat) (r : List Int) (w : World) (hT : Tab10 w) (h : InL w B A 4 r) (hB : B ≤ w.heap.size) (hp : ∀ z ∈ r, -1 ≤ z ∧ z ≤ 11) :
    Calls Tryd.prog 16 #[.slice A 4 c] w fun e w' => e = .returned (.string (strL (rowL r))) ∧ Below w.heap.size w w' := by
  have HE := Lib.hid (eachState_c A 4 c B r w hT h hB (by omega) hp)
  have HL := Lib.hid (rowL_len h.1 hp)
  have H4 := Lib.hid h.1
  clear h hT hp
  go_enter Tryd.func16, Tryd.ntmps16
  go_wp2_with fail
  refine HE.out.mono ?_
  rintro e w1 ⟨g, rfl, hown, hb1⟩
  have HJ := Lib.hid (joined_c g 4 w.heap.size (r.map celL) 44 w1 (by rw [List.length_map]; exact H4.out) (by rw [List.map_map]; exact hown) (by omega) (by have := HL.out; unfold rowL at this; omega))
  clear hown
  go_wp2_with fail
  refine HJ.out.mono ?_
  rintro e w2 ⟨rfl, hb2⟩
  go_wp2_with fail
  go_ret
  exact ⟨rfl, bon hb1 hb2⟩

set_option maxRecDepth 100000 in
set_option maxHeartbeats 4000000 in
/-- The texts of rows, in a row of the call's own. -/
theorem eachRow_c (A : Option Addr) (n c B : Nat) (xs : List (List Int)) (w : World) (hT : Tab10 w) (h : InLL w B A n xs) (hB : B ≤ w.heap.size) (ok : PolOk xs) :
    Calls Tryd.prog 15 #[.slice A n c, .func (Fn.func 16) #[] #[]] w fun e w' => ∃ g, e = .returned (.slice (some ⟨g, 0, none⟩) n n) ∧ w'.ownsRow w.heap.size 9 1 (.slice (some ⟨g, 0, none⟩) n n) n (xs.map fun r => Value.string (strL (rowL r))) ∧ Below w.heap.size w w' := by
  obtain ⟨i0, hi, hz0, hz1, hz2⟩ := info_parts infoStrP
  have hn : n ≤ 12 := by have := ok.hi; have := h.1; omega
  have HL := Lib.hid h.1
  have HX := Lib.hid h
  have HP := Lib.hid ok
  have HTT := Lib.hid hT
  clear h ok hT
  go_enter Tryd.func15, Tryd.ntmps15
  go_wp2_with (at_make; refine wpList_make_full _ rfl _ _ 39 rfl w.heap.size 9 i0 (.string ByteArray.empty) 1 Tryd.underlying39 hi hz0 hz1 .i64 .i64 _ _ n rfl rfl rfl rfl (by rw [hz2]; omega) (by unfold maxLen; omega) (Nat.le_refl _) ?_; intro w1 hown hgrow)
  rw [copy_start n (xs.map fun z => Value.string (strL (rowL z)))] at hown
  have hb1 := (Below.refl w.heap.size w).grown hgrow (Nat.le_refl _) (fun _ h => by cases h)
  clear hgrow
  go_loopw [6, 7, 13] (fun _ _ i wr => ∃ k : Nat, k ≤ n ∧ i = .int .i64 k ∧ wr.ownsRow w.heap.size 9 1 (.slice (some ⟨w.heap.size, 0, none⟩) n n) n ((xs.map fun z => Value.string (strL (rowL z))).take k ++ List.replicate (n - k) (.string ByteArray.empty)) ∧ Below w.heap.size w wr) (fun _ _ i _ => n - (intOf i).toNat)
  case atStart => exact ⟨0, Nat.zero_le _, rfl, hown, hb1⟩
  case round =>
    clear hown hb1
    obtain ⟨k, hk, rfl, hown, hbel⟩ := hrel
    have hsz := hbel.size
    by_cases hlt : k < n
    · obtain ⟨b, off, z, rfl, hb, hx, A0, n0, c0, hc, hin⟩ := (HX.out.next hbel hB).at_ hlt
      have hm := List.mem_of_getElem? hx
      have h4 := HP.out.len z hm
      obtain rfl : n0 = 4 := by have := hin.1; omega
      have HC := Lib.hid (rowText_c A0 c0 B z wr (HTT.out.next hbel) hin (by omega) (fun y hy => by have := HP.out.num z hm y hy; have := HP.out.hi; omega))
      have hst0 := Lib.hid (copy_step (n := n) (k := k) (xs := xs.map fun z => Value.string (strL (rowL z))) (z := .string ByteArray.empty) (x := .string (strL (rowL z))) (by simpa using HL.out) hlt (by simp [hx]))
      have hul : k < ((xs.map fun z => Value.string (strL (rowL z))).take k ++ List.replicate (n - k) (Value.string ByteArray.empty)).length := by have := HL.out; simp; omega
      generalize (xs.map fun z => Value.string (strL (rowL z))).take k ++ List.replicate (n - k) (Value.string ByteArray.empty) = ys at hown hul hst0
      clear hx hm h4 hin
      go_wp2_with fail
      refine HC.out.mono ?_
      rintro e w2 ⟨rfl, hb12⟩
      have hown1 := own_below hown hb12
      have hfz := hown1.frozenAt k
      have hcl := hown1.cellAt k (by omega)
      rw [List.getElem?_eq_getElem hul] at hcl
      have hst := Lib.hid (hown1.stored k (.string (strL (rowL z))))
      clear hown1 hown
      go_wp2_with fail
      go_roundw
      case rel => exact ⟨k + 1, by omega, by go_num, by rw [hst0.out] at hst; exact hst.out.1, (hbel.trans (hb12.mono hsz)).setCell (p := ⟨w.heap.size, k, none⟩) (Nat.le_refl _) _⟩
      case measure => simp [intOf]; omega
    · have e : k = n := by omega
      subst e
      have HO := Lib.hid hown
      clear hown
      go_wp2_with fail
      go_ret
      exact ⟨_, rfl, by have := HO.out; rw [copy_end (by simpa using HL.out)] at this; exact this, hbel⟩

set_option maxRecDepth 100000 in
set_option maxHeartbeats 4000000 in
theorem implPText_c (A : Option Addr) (n c B : Nat) (xs : List (List Int)) (w : World) (hT : Tab10 w) (h : InLL w B A n xs) (hB : B ≤ w.heap.size) (hn : n ≤ 1048576) (he : ∀ x ∈ xs, x.length ≤ 1048576) :
    Calls Tryd.prog 7 #[.agg #[.slice A n c]] w fun e w' => e = .returned (.tuple #[.string (ptR xs).1, .bool (ptR xs).2]) ∧ Below w.heap.size w w' := by
  have hb0 := bnew w (.cells #[.slice A n c] 28)
  have p0 : (w.alloc (.cells #[.slice A n c] 28)).cell? ⟨w.heap.size, 0, none⟩ = some (.slice A n c) := by simp
  have HX := Lib.hid (h.next hb0 hB)
  have hB0 : B ≤ (w.alloc (.cells #[.slice A n c] 28)).heap.size := Nat.le_trans hB hb0.size
  have HS0 := implPolicy_c A n c B xs (w.alloc (.cells #[.slice A n c] 28)) HX.out hB0 hn he
  have HTT := Lib.hid (hT.next hb0)
  have hlen := Lib.hid h.1
  clear hT
  cases hv : polB xs with
  | false =>
    rw [ptR_no hv]
    rw [hv] at HS0
    have HS := Lib.hid HS0
    clear HS0 hv h
    go_enter Tryd.func7, Tryd.ntmps7
    go_wp2_with fail
    generalize w.alloc (.cells #[.slice A n c] 28) = W at hb0 p0 HX hB0 HS HTT ⊢
    refine HS.out.mono ?_
    rintro e w1 ⟨rfl, hb1⟩
    go_wp2_with fail
    go_ret2
    exact ⟨rfl, bon hb0 hb1⟩
  | true =>
    rw [ptR_yes hv]
    rw [hv] at HS0
    have HS := Lib.hid HS0
    have HOK := Lib.hid (polOk_of hv)
    have HPL := Lib.hid (polL_len HOK.out)
    clear HS0 hv h
    go_enter Tryd.func7, Tryd.ntmps7
    go_wp2_with fail
    generalize w.alloc (.cells #[.slice A n c] 28) = W at hb0 p0 HX hB0 HS HTT ⊢
    refine HS.out.mono ?_
    rintro e w1 ⟨rfl, hb1⟩
    have hs1 := hb1.size
    replace p0 := cell_next p0 hb1
    have HR := Lib.hid (eachRow_c A n c B xs w1 (HTT.out.next hb1) (HX.out.next hb1 hB0) (by omega) HOK.out)
    have hn12 : n ≤ 12 := by have := HOK.out.hi; have := hlen.out; omega
    go_wp2_with fail
    refine HR.out.mono ?_
    rintro e w2 ⟨g, rfl, hown, hb2⟩
    have HJ := Lib.hid (joined_c g n w1.heap.size (xs.map rowL) 47 w2 (by rw [List.length_map]; exact hlen.out) (by rw [List.map_map]; exact hown) (by omega) (by have := HPL.out; unfold polL at this; omega))
    clear hown
    go_wp2_with fail
    refine HJ.out.mono ?_
    rintro e w3 ⟨rfl, hb3⟩
    go_wp2_with fail
    go_ret2
    exact ⟨rfl, bon (bon (bon hb0 hb1) hb2) hb3⟩
end Go.Proofs.YtclenhnbgfcjjaaDoor
