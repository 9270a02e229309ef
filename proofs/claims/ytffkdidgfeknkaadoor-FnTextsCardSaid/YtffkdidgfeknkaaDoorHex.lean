/-
  Hexadecimal digits: what the program's HexOf and the model's l01Hex give. Conditions: strings of at most 40000 bytes.
-/
import Derived.Test.YtffkdidgfeknkaaDoorBase
import Derived.Deep.RegionLaw
namespace Go.Proofs.YtffkdidgfeknkaaDoor
open Go.RowKit

theorem info8h : (Tryd.prog.info? 5).map (fun i => (i.zero, i.size, i.bytes)) = some (some (.int .u8 0), 1, 1) := by kernel_rfl
/-- A digit's byte. -/
def hx (d : Nat) : Nat := if d < 10 then 48 + d else 87 + d
/-- The digits of a list of bytes. -/
def hexL (l : List UInt8) : List Nat := l.flatMap fun c => [hx (c.toNat / 16), hx (c.toNat % 16)]
theorem hexL_succ (s : ByteArray) (k : Nat) (h : k < s.size) : hexL (s.data.toList.take (k + 1)) = hexL (s.data.toList.take k) ++ [hx (s[k].toNat / 16)] ++ [hx (s[k].toNat % 16)] := by
  have hx : s.data.toList[k]? = some s[k] := by
    rw [List.getElem?_eq_getElem (by simpa using h)]; rfl
  rw [List.take_add_one, hx]
  simp [hexL]
theorem hexL_len : ∀ (l : List UInt8), (hexL l).length = 2 * l.length
  | [] => rfl
  | c :: l => by
    have h : hexL (c :: l) = [hx (c.toNat / 16), hx (c.toNat % 16)] ++ hexL l := rfl
    rw [h, List.length_append, hexL_len l]
    simp; omega

theorem dig_at : ∀ (d : Nat) (h : d < (⟨#[48, 49, 50, 51, 52, 53, 54, 55, 56, 57, 97, 98, 99, 100, 101, 102]⟩ : ByteArray).size),
    ((⟨#[48, 49, 50, 51, 52, 53, 54, 55, 56, 57, 97, 98, 99, 100, 101, 102]⟩ : ByteArray)[d]'h).toNat = hx d := by
  intro d h
  have h16 : d < 16 := h
  have key : ∀ d : Fin 16, ((⟨#[48, 49, 50, 51, 52, 53, 54, 55, 56, 57, 97, 98, 99, 100, 101, 102]⟩ : ByteArray)[d.1]'(by exact d.2)).toNat = hx d.1 := by decide
  exact key ⟨d, h16⟩
theorem hex_step {base n : Nat} {v' : Value} {w1 : World} {l : List Nat} {d : Nat} (h : w1.ownsRow base 5 1 v' (n + 1) (List.map bc l ++ [Value.int .u8 (d : Int)])) (hn : l.length = n) :
    w1.ownsRow base 5 1 v' (l ++ [d]).length ((l ++ [d]).map bc) := by
  subst hn
  simpa [bc] using h

theorem two_cells (w : World) (x y : Value) (t : TypeId) (g : Nat) (hg : g = w.heap.size) : ∀ j u, [x, y][j]? = some u → (w.alloc (.cells #[x, y] t)).cell? ((⟨g, 0, none⟩ : Addr).add j) = some u := by
  subst hg
  intro j u hj
  have ha : (⟨w.heap.size, 0, none⟩ : Addr).add j = ⟨w.heap.size, j, none⟩ := by unfold Addr.add; split <;> simp_all
  rw [ha, cell_of_row _ _ j _ _ _ (heap_alloc_new w _)]
  simpa using hj
/-- An append onto a row of the call's own, as one step of a region that draws its order. -/
theorem step_append_own {P : Program} {ops : Array Oper} {o : Oper} {a : Act} {w : World} {K : Act → World → Prop} {Q : Exit → Act → World → Prop} {E : Prop} (hgd : o.guard = none) (s x : Operand) (t : TypeId)
    (ho : o.op = .call { callee := .builtin .append, args := #[s, x], argTypes := #[t, t] })
    (base : Nat) (e : TypeId) (i : TypeInfo) (z : Value) (size bytes : Nat) (ht : P.underlying t = some (.slice e)) (hi : P.info? e = some i) (hz : i.zero = some z)
    (hsize : i.size = size) (hby : i.bytes = bytes) (hzs : z.cells.size = size) (hsz : 0 < size)
    (v : Value) (n : Nat) (xs : List Value) (hs : a.eval s = v) (hown : w.ownsRow base e size v n xs)
    (ad : Addr) (m c : Nat) (news : List Value) (hx : a.eval x = .slice (some ad) m c) (hl : news.length = m * size) (hnews : ∀ j u, news[j]? = some u → w.cell? (ad.add j) = some u) (h1 : ∀ u ∈ news, u.oneCell' = true)
    (h63 : n + m ≤ maxLen) (hbytes : (n + m) * bytes ≤ 140737488355328) (hbase : base ≤ w.heap.size)
    (h : ∀ v' w', w'.ownsRow base e size v' (n + m) (xs ++ news) → w.grownBy w' v.ownBlock → K (a.put o.dst v') w') :
    if Region.wanted o (yielded ops a.tmps) = true then Oper.wp P o a w K Q else E := by
  have hw : Region.wanted o (yielded ops a.tmps) = true := by simp [Region.wanted, hgd]
  rw [if_pos hw]
  exact wp_append_own w s x t ho base e i z size bytes ht hi hz hsize hby hzs hsz v n xs hs hown ad m c news hx hl hnews h1 h63 hbytes hbase (fun v' w' h2 h3 _ => h v' w' h2 h3)

theorem hex2_step {base n : Nat} {v' : Value} {w1 : World} {l : List Nat} {d e : Nat} (h : w1.ownsRow base 5 1 v' (n + 2) (List.map bc l ++ [Value.int .u8 (d : Int), Value.int .u8 (e : Int)])) (hn : l.length = n) :
    w1.ownsRow base 5 1 v' (l ++ [d] ++ [e]).length ((l ++ [d] ++ [e]).map bc) := by
  subst hn
  simpa [bc] using h

set_option maxRecDepth 100000 in
set_option maxHeartbeats 1000000 in
theorem hexOf_c (s : ByteArray) (w : World) (hs : s.size ≤ 40000) :
    Calls Tryd.prog 16 #[.string s] w fun e w' => e = .returned (.tuple #[.string (bstr (hexL s.data.toList)), .bool true]) ∧ Below w.heap.size w w' := by
  obtain ⟨i0, hi, hz0, hz1, hz2⟩ := info_parts info8h
  have hd0 : decide ((40000 : Int) < s.size) = false := by simp; omega
  go_enter Tryd.func16, Tryd.ntmps16
  go_wp2_with (at_make; refine wpList_make_own _ rfl _ _ 22 rfl w.heap.size 5 i0 (.int .u8 0) 1 Tryd.underlying22 hi hz0 hz1 .i64 .i64 (2 * (s.size : Int)) (2 * s.size) rfl rfl (by omega) (by rw [hz2]; omega) (by unfold maxLen; omega) (Nat.le_refl _) ?_; intro w1 hown hgrow)
  go_loopw [4, 5, 15] (fun v _ i wr => ∃ k : Nat, k ≤ s.size ∧ i = .int .i64 k ∧ wr.ownsRow w.heap.size 5 1 v (hexL (s.data.toList.take k)).length ((hexL (s.data.toList.take k)).map bc) ∧ Below w.heap.size w wr) (fun _ _ i _ => s.size - (intOf i).toNat)
  case atStart => exact ⟨0, Nat.zero_le _, rfl, hown, (Below.refl _ _).grown hgrow (Nat.le_refl _) (fun _ h => by cases h)⟩
  case round =>
    clear hown hgrow
    obtain ⟨k, hk, rfl, hown, hbel⟩ := hrel
    by_cases hlt : k < s.size
    · have hby : (s[k].toNat : Int) < 256 := by have := s[k].toNat_lt; omega
      have hd1 : (s[k].toNat : Int) / 16 < 16 := by omega
      have hd2 : (s[k].toNat : Int) % 16 < 16 := by omega
      have hd3 : 0 ≤ (s[k].toNat : Int) / 16 := by omega
      have hd4 : 0 ≤ (s[k].toNat : Int) % 16 := by omega
      have hw1 : IntKind.u8.wrap ((s[k].toNat : Int) / 16) = (s[k].toNat : Int) / 16 := IntWalk.u8_in _ ⟨by omega, by omega⟩
      have hw2 : ((s[k].toNat : Int)).tmod 16 = (s[k].toNat : Int) % 16 := Int.tmod_eq_emod_of_nonneg (by omega)
      have hw3 : ((s[k].toNat : Int) / 16).toNat = s[k].toNat / 16 := by omega
      have hw4 : ((s[k].toNat : Int) % 16).toNat = s[k].toNat % 16 := by omega
      have hw5 : IntKind.u8.wrap ((s[k].toNat : Int) % 16) = (s[k].toNat : Int) % 16 := IntWalk.u8_in _ ⟨by omega, by omega⟩
      have hdig := dig_at
      have HS := Lib.hid (hexL_succ s k hlt)
      have hln : (hexL (s.data.toList.take k)).length ≤ 2000000 := by rw [hexL_len, List.length_take]; omega
      have hsz := hbel.size
      generalize hexL (s.data.toList.take k) = l at hown HS hln
      go_wp2_with fail
      go_region_law (refine step_append_own rfl (.tmp 18) (.tmp 29) 22 rfl w.heap.size 5 i0 (.int .u8 0) 1 1 Tryd.underlying22 hi hz0 hz1 hz2 rfl (by decide) _ _ _ rfl (by first | exact hown.alloc _ | exact hown.drew.alloc _) ⟨wr.heap.size, 0, none⟩ 2 2 [.int .u8 ((hx (s[k].toNat / 16) : Nat) : Int), .int .u8 ((hx (s[k].toNat % 16) : Nat) : Int)] rfl rfl (by exact two_cells _ _ _ _ _ rfl) (by intro u hu; simp at hu; rcases hu with rfl | rfl <;> rfl) (by unfold maxLen; omega) (by omega) (by simp; omega) ?_; intro v1 w2 hown1 hgrow)
      all_goals
        have R := hex2_step hown1 rfl
        rw [← HS.out] at R
        have hb2 : Below w.heap.size w w2 := (hbel.drew.alloc (by simpa using hsz) _).grown hgrow (by simp; omega) (fun j hj => (hown.lt j hj).1)
        clear hown1 hgrow
        go_wp2_with fail
        go_roundw
        case rel => exact ⟨k + 1, by omega, by go_num, R, hb2⟩
        case measure => simp [intOf]; omega
    · rw [List.take_of_length_le (by simp; omega)] at hown
      have hcv := run_own_string 22 9 Tryd.underlying22 Tryd.underlying5 Tryd.underlying9 _ hown
      clear hown
      go_wp2_with fail
      go_ret2
      exact ⟨rfl, hbel⟩
end Go.Proofs.YtffkdidgfeknkaaDoor
