/-
  Reading hexadecimal digits: what the program's ReadHex and the model's l01Bytes give. Conditions: strings of at most 80000 bytes, of an even length.
-/
import Derived.Test.YtffkdidgfeknkaaDoorHex
import Derived.Test.YtffkdidgfeknkaaDoorKeep
import Derived.Laws.Externs
import Derived.Laws.StandIn
import Derived.BigCall
namespace Go.Proofs.YtffkdidgfeknkaaDoor
open Go.RowKit

/-- The byte with an index. -/
def ba (s : ByteArray) (i : Nat) : Nat := (s.data.toList.getD i 0).toNat
def dg (c : Nat) : Nat := if 48 ≤ c ∧ c ≤ 57 then c - 48 else if 97 ≤ c ∧ c ≤ 102 then c - 87 else 0
def isH (c : Nat) : Prop := (48 ≤ c ∧ c ≤ 57) ∨ (97 ≤ c ∧ c ≤ 102)
instance : DecidablePred isH := fun c => by unfold isH; infer_instance
theorem dg_lt (c : Nat) : dg c ≤ 15 := by unfold dg; split <;> (try split) <;> omega
theorem hx_dg (c : Nat) : hx (dg c) = c ↔ isH c := by
  unfold hx dg isH
  split <;> (try split) <;> (try split) <;> omega
theorem ba_at {s : ByteArray} {k : Nat} (h : k < s.size) : s[k].toNat = ba s k := by
  unfold ba
  rw [List.getD, List.getElem?_eq_getElem (by simpa using h)]
  rfl
theorem ba_lt (s : ByteArray) (k : Nat) : ba s k < 256 := UInt8.toNat_lt _
/-- The bytes that are read out of the first k digits. -/
def rdK (s : ByteArray) (k : Nat) : List Nat := (List.range (k / 2)).map fun j => 16 * dg (ba s (2 * j)) + dg (ba s (2 * j + 1))
theorem rdK_succ (s : ByteArray) {k : Nat} (h : k % 2 = 0) : rdK s (k + 2) = rdK s k ++ [16 * dg (ba s k) + dg (ba s (k + 1))] := by
  have e : (k + 2) / 2 = k / 2 + 1 := by omega
  have e2 : 2 * (k / 2) = k := by omega
  simp [rdK, e, List.range_succ, e2]
theorem rdK_len (s : ByteArray) (k : Nat) : (rdK s k).length = k / 2 := by simp [rdK]
def okB (s : ByteArray) : Bool := decide (∀ i, i < s.size → isH (ba s i))
theorem sb_range (s : ByteArray) : sb s = (List.range s.size).map (ba s) := by
  apply List.ext_getElem?
  intro i
  by_cases h : i < s.size
  · rw [sb, List.getElem?_map, List.getElem?_eq_getElem (by simpa using h), List.getElem?_map, List.getElem?_range h]
    simp only [Option.map, ba, List.getD]
    rw [List.getElem?_eq_getElem (by simpa using h)]
    rfl
  · rw [sb, List.getElem?_eq_none (by simp; omega), List.getElem?_eq_none (by simp; omega)]
theorem pairs (f : Nat → Nat) : ∀ m : Nat, (List.range m).flatMap (fun j => [f (2 * j), f (2 * j + 1)]) = (List.range (2 * m)).map f
  | 0 => rfl
  | m + 1 => by
    have e : 2 * (m + 1) = 2 * m + 1 + 1 := by omega
    rw [List.range_succ, List.flatMap_append, pairs f m, e, List.range_succ, List.range_succ]
    simp
theorem hex_back (s : ByteArray) (h : s.size % 2 = 0) : hexL (bstr (rdK s s.size)).data.toList = (List.range s.size).map fun i => hx (dg (ba s i)) := by
  have e : 2 * (s.size / 2) = s.size := by omega
  rw [← e, ← pairs]
  rw [e]
  simp only [bstr, hexL, rdK, List.map_map, List.flatMap_map]
  congr 1
  funext j
  have h1 := dg_lt (ba s (2 * j))
  have h2 := dg_lt (ba s (2 * j + 1))
  have h3 : (UInt8.ofNat (16 * dg (ba s (2 * j)) + dg (ba s (2 * j + 1)))).toNat = 16 * dg (ba s (2 * j)) + dg (ba s (2 * j + 1)) := by
    rw [UInt8.toNat_ofNat']; omega
  simp only [Function.comp]
  rw [h3]
  have e1 : (16 * dg (ba s (2 * j)) + dg (ba s (2 * j + 1))) / 16 = dg (ba s (2 * j)) := by omega
  have e2 : (16 * dg (ba s (2 * j)) + dg (ba s (2 * j + 1))) % 16 = dg (ba s (2 * j + 1)) := by omega
  rw [e1, e2]
theorem sb_bstr {l : List Nat} (h : ∀ x ∈ l, x < 256) : sb (bstr l) = l := by
  simp only [sb, bstr, List.map_map]
  have : ∀ x ∈ l, (UInt8.toNat ∘ UInt8.ofNat) x = x := by
    intro x hx
    have := h x hx
    simp only [Function.comp, UInt8.toNat_ofNat']
    omega
  exact (List.map_congr_left this).trans (List.map_id' l)
theorem back_eq (s : ByteArray) (h : s.size % 2 = 0) : (bstr (hexL (bstr (rdK s s.size)).data.toList) = s) ↔ okB s = true := by
  rw [hex_back s h]
  unfold okB
  rw [decide_eq_true_iff]
  constructor
  · intro e i hi
    have h1 := congrArg sb e
    rw [sb_range s, sb_bstr (by
      intro x hx0
      obtain ⟨j, _, rfl⟩ := List.mem_map.1 hx0
      have := dg_lt (ba s j)
      unfold hx; split <;> omega)] at h1
    have h2 := congrArg (fun l : List Nat => l[i]?) h1
    simp only [List.getElem?_map, List.getElem?_range hi, Option.map, Option.some.injEq] at h2
    exact (hx_dg _).1 h2
  · intro ha
    have e : (List.range s.size).map (fun i => hx (dg (ba s i))) = sb s := by
      rw [sb_range s]
      apply List.map_congr_left
      intro i hi
      exact (hx_dg _).2 (ha i (List.mem_range.1 hi))
    rw [e, bstr_of]

/-- The string that is read, if there is one. -/
def rdV (s : ByteArray) : ByteArray := if okB s = true then bstr (rdK s s.size) else ⟨#[]⟩
theorem rdV_yes {s : ByteArray} (h : okB s = true) : rdV s = bstr (rdK s s.size) := by unfold rdV; rw [if_pos h]
theorem rdV_no {s : ByteArray} (h : okB s = false) : rdV s = ⟨#[]⟩ := by unfold rdV; rw [h]; rfl
theorem one_cell (w : World) (x : Value) (t : TypeId) (g : Nat) (hg : g = w.heap.size) : ∀ j u, [x][j]? = some u → (w.alloc (.cells #[x] t)).cell? ((⟨g, 0, none⟩ : Addr).add j) = some u := by
  subst hg
  intro j u hj
  have ha : (⟨w.heap.size, 0, none⟩ : Addr).add j = ⟨w.heap.size, j, none⟩ := by unfold Addr.add; split <;> simp_all
  rw [ha, cell_of_row _ _ j _ _ _ (heap_alloc_new w _)]
  simpa using hj
theorem str_ne {a b : ByteArray} (h : ¬ a = b) : (a.toList == b.toList) = false := by
  rw [beq_eq_false_iff_ne]
  intro e
  rw [ByteArray.toList_eq, ByteArray.toList_eq] at e
  exact h (ByteArray.ext (Array.toList_inj.mp e))
theorem hid_even {k : Nat} (h : Hid (k % 2 = 0)) : Hid ((k + 2) % 2 = 0) := by have := h.out; show _ = _; omega

/-- The index among the digits. -/
def ix (x : Nat) : Int := if isH x then (dg x : Int) else -1
theorem ix_yes {x : Nat} (h : isH x) : ix x = dg x := by unfold ix; rw [if_pos h]
theorem ix_no {x : Nat} (h : ¬ isH x) : ix x = -1 := by unfold ix; rw [if_neg h]
theorem first_at (x : Nat) (h : x < 256) : firstIdx ⟨#[48, 49, 50, 51, 52, 53, 54, 55, 56, 57, 97, 98, 99, 100, 101, 102]⟩ (x : Int).toNat.toUInt8 = ix x := by
  unfold ix
  have key : ∀ y : Fin 256, firstIdx ⟨#[48, 49, 50, 51, 52, 53, 54, 55, 56, 57, 97, 98, 99, 100, 101, 102]⟩ ((y.1 : Nat) : Int).toNat.toUInt8 = if isH y.1 then (dg y.1 : Int) else -1 := by decide +kernel
  exact key ⟨x, h⟩
set_option maxRecDepth 100000 in
set_option maxHeartbeats 2000000 in
/-- strings.IndexByte among the digits. -/
theorem idx_c (x : Nat) (w : World) (h : x < 256) :
    Calls Tryd.prog 43 #[.string ⟨#[48, 49, 50, 51, 52, 53, 54, 55, 56, 57, 97, 98, 99, 100, 101, 102]⟩, .int .u8 x] w fun e w' => e = .returned (.int .i64 (ix x)) ∧ w = w' := by
  go_enter Tryd.func43, Tryd.ntmps43
  go_wp2
  rw [run_callFunc_extern Tryd.func96 (by kernel_rfl) (by kernel_rfl) (by kernel_rfl) (e := Extern.BytealgIndexByte.indexByte) (by kernel_rfl), run_indexByte_string]
  simp only [Result.andThen]
  rw [Oper.upon_value]
  rw [first_at x h]
  go_wp2
  go_ret
  exact ⟨rfl, rfl⟩

theorem okB_no {s : ByteArray} {k : Nat} (hk : k < s.size) (h : ¬ isH (ba s k)) : okB s = false := by
  unfold okB
  rw [decide_eq_false (fun a => h (a k hk))]
theorem okB_yes {s : ByteArray} (h : ∀ i, i < s.size → isH (ba s i)) : okB s = true := by
  unfold okB
  rw [decide_eq_true h]
theorem ok_ext {s : ByteArray} {k : Nat} (h : ∀ i, i < k → isH (ba s i)) (h1 : isH (ba s k)) (h2 : isH (ba s (k + 1))) : ∀ i, i < k + 2 → isH (ba s i) := by
  intro i hi
  by_cases a : i < k
  · exact h i a
  · by_cases b : i = k
    · rw [b]; exact h1
    · have : i = k + 1 := by omega
      rw [this]; exact h2

set_option maxRecDepth 100000 in
set_option maxHeartbeats 2000000 in
theorem readHex_c (s : ByteArray) (w : World) (hs : s.size ≤ 80000) (hev : s.size % 2 = 0) :
    Calls Tryd.prog 17 #[.string s] w fun e w' => e = .returned (.tuple #[.string (rdV s), .bool (okB s)]) ∧ Below w.heap.size w w' := by
  obtain ⟨i0, hi, hz0, hz1, hz2⟩ := info_parts info8h
  have HEV := Lib.hid hev
  have hm0 : (s.size : Int) % 2 = 0 := by omega
  have hd0 : decide ((80000 : Int) < s.size) = false := by simp; omega
  have hw0 : (s.size : Int) / 2 = ((s.size / 2 : Nat) : Int) := by omega
  have HW0 := Lib.hid hw0
  have hm2 : s.size % 2 = 0 := hev
  clear hev hw0
  go_enter Tryd.func17, Tryd.ntmps17
  go_wp2_with (at_make; refine wpList_make_own _ rfl _ _ 22 rfl w.heap.size 5 i0 (.int .u8 0) 1 Tryd.underlying22 hi hz0 hz1 .i64 .i64 ((s.size : Int) / 2) (s.size / 2) rfl rfl HW0.out (by rw [hz2]; omega) (by unfold maxLen; omega) (Nat.le_refl _) ?_; intro w1 hown hgrow)
  go_loopw [4, 5, 6, 7] (fun v i _ _ wr => ∃ k : Nat, k ≤ s.size ∧ Hid (k % 2 = 0) ∧ Hid (∀ i, i < k → isH (ba s i)) ∧ i = .int .i64 k ∧ wr.ownsRow w.heap.size 5 1 v (rdK s k).length ((rdK s k).map bc) ∧ Below w.heap.size w wr) (fun _ i _ _ _ => s.size - (intOf i).toNat)
  case atStart => exact ⟨0, Nat.zero_le _, rfl, (fun i hi => absurd hi (Nat.not_lt_zero _)), rfl, hown, (Below.refl _ _).grown hgrow (Nat.le_refl _) (fun _ h => by cases h)⟩
  case round =>
    clear hown hgrow
    obtain ⟨k, hk, hke, hall, rfl, hown, hbel⟩ := hrel
    by_cases hlt : k < s.size
    · have hlt2 : k + 1 < s.size := by have := hke.out; have := HEV.out; omega
      have hln : (rdK s k).length ≤ 80000 := by rw [rdK_len]; omega
      have HS := Lib.hid (rdK_succ s hke.out)
      have hsz := hbel.size
      have hb1 := ba_at hlt
      have hb2 := ba_at hlt2
      have C1 := Lib.hid (fun w => idx_c (ba s k) w (ba_lt s k))
      have C2 := Lib.hid (fun w => idx_c (ba s (k + 1)) w (ba_lt s (k + 1)))
      have hd1 : (dg (ba s k) : Int) ≤ 15 := by have := dg_lt (ba s k); omega
      have hd2 : (dg (ba s (k + 1)) : Int) ≤ 15 := by have := dg_lt (ba s (k + 1)); omega
      by_cases h1 : isH (ba s k)
      · by_cases h2 : isH (ba s (k + 1))
        · have HALL := Lib.hid (ok_ext hall.out h1 h2)
          rw [ix_yes h1] at C1
          rw [ix_yes h2] at C2
          clear h1 h2 hall
          generalize ba s k = x1 at *
          generalize ba s (k + 1) = x2 at *
          generalize dg x1 = y1 at *
          generalize dg x2 = y2 at *
          generalize rdK s k = l at hown HS hln
          go_wp2_with fail
          refine (C1.out _).mono ?_
          rintro e w' ⟨rfl, rfl⟩
          go_wp2_with fail
          refine (C2.out _).mono ?_
          rintro e w' ⟨rfl, rfl⟩
          go_wp2_with (at_builtin; refine wpList_append_own _ rfl _ _ 22 rfl w.heap.size 5 i0 (.int .u8 0) 1 1 Tryd.underlying22 hi hz0 hz1 hz2 rfl (by decide) _ _ _ rfl (hown.alloc _) ⟨wr.heap.size, 0, none⟩ 1 1 [.int .u8 (16 * (y1 : Int) + (y2 : Int))] rfl rfl (by exact one_cell _ _ _ _ rfl) (by intro u hu; simp at hu; subst hu; rfl) (by unfold maxLen; omega) (by omega) (by simp; omega) ?_; intro v1 w2 hown1 hgrow _)
          have R := hex_step (d := 16 * y1 + y2) (by simpa using hown1) rfl
          rw [← HS.out] at R
          have hb2 : Below w.heap.size w w2 := (hbel.alloc hsz _).grown hgrow (by simp; omega) (fun j hj => (hown.lt j hj).1)
          clear hown1 hgrow hown hbel
          go_wp2_with fail
          go_roundw
          case rel => exact ⟨k + 2, by omega, hid_even hke, HALL.out, by go_num, R, hb2⟩
          case measure => simp [intOf]; omega
        · have hok := okB_no hlt2 h2
          have HV := Lib.hid (rdV_no hok)
          rw [ix_yes h1] at C1
          rw [ix_no h2] at C2
          clear h1 h2 hall
          have HOK := Lib.hid hok
          clear hok
          generalize ba s k = x1 at *
          generalize ba s (k + 1) = x2 at *
          generalize dg x1 = y1 at *
          go_wp2_with fail
          refine (C1.out _).mono ?_
          rintro e w' ⟨rfl, rfl⟩
          go_wp2_with fail
          refine (C2.out _).mono ?_
          rintro e w' ⟨rfl, rfl⟩
          go_wp2_with fail
          go_ret2
          exact ⟨by rw [HV.out, HOK.out]; rfl, hbel⟩
      · have hok := okB_no hlt h1
        have HV := Lib.hid (rdV_no hok)
        rw [ix_no h1] at C1
        clear h1 hall
        have HOK := Lib.hid hok
        clear hok
        generalize ba s k = x1 at *
        generalize ba s (k + 1) = x2 at *
        generalize ix x2 = y2 at *
        go_wp2_with fail
        refine (C1.out _).mono ?_
        rintro e w' ⟨rfl, rfl⟩
        go_wp2_with fail
        refine (C2.out _).mono ?_
        rintro e w' ⟨rfl, rfl⟩
        go_wp2_with fail
        go_ret2
        exact ⟨by rw [HV.out, HOK.out]; rfl, hbel⟩
    · have e : k = s.size := by omega
      subst e
      have hok := okB_yes hall.out
      have HV := Lib.hid (rdV_yes hok)
      have HOK := Lib.hid hok
      have hcv := run_own_string 22 9 Tryd.underlying22 Tryd.underlying5 Tryd.underlying9 _ hown
      clear hown hok hall
      go_wp2_with fail
      go_ret2
      exact ⟨by rw [HV.out, HOK.out]; rfl, hbel⟩
end Go.Proofs.YtffkdidgfeknkaaDoor
