/-
  A proof of one node: what the model's TrivialProof gives. Conditions: at most 2^20 terms and coefficients. (printed by gen_triv.py)
-/
import Derived.Test.YtapndnkcmmpdjaaCloses
import Derived.Test.YtapndnkcmmpdjaaCtx
import Derived.Test.YtapndnkcmmpdjaaNodeM
import Derived.Deep.AppendLies
namespace Go.Proofs.Ytapndnkcmmpdjaa
set_option linter.unusedVariables false
open Go.RowKit

/-- The multipliers that have 1 at some places. -/
def vecS (n : Nat) (S : List Nat) : List Int := (List.range n).map fun j => if j ∈ S then 1 else 0
theorem vecS_len (n : Nat) (S : List Nat) : (vecS n S).length = n := by simp [vecS]
theorem vecS_at {n j : Nat} (S : List Nat) (h : j < n) : (vecS n S)[j]? = some (if j ∈ S then 1 else 0) := by simp [vecS, h]
theorem vecS_btw (n : Nat) (S : List Nat) : btw 0 1000000 (vecS n S) = true := by
  unfold btw
  refine decide_eq_true fun z hz => ?_
  unfold vecS at hz
  obtain ⟨j, _, rfl⟩ := List.mem_map.1 hz
  split <;> omega
theorem vecS_same {n : Nat} {S S' : List Nat} (h : ∀ j, j ∈ S ↔ j ∈ S') : vecS n S = vecS n S' := by
  unfold vecS
  refine List.map_congr_left fun j _ => ?_
  by_cases hj : j ∈ S
  · rw [if_pos hj, if_pos ((h j).1 hj)]
  · rw [if_neg hj, if_neg (fun h' => hj ((h j).2 h'))]
theorem vecS_nil (n : Nat) : (vecS n []).map ic = List.replicate n (.int .i64 0) := by
  refine List.ext_getElem? fun j => ?_
  by_cases hj : j < n
  · rw [List.getElem?_map, vecS_at _ hj, List.getElem?_replicate, if_pos hj]; simp [ic]
  · rw [List.getElem?_eq_none (by rw [List.length_map, vecS_len]; omega), List.getElem?_eq_none (by simp; omega)]
theorem vecS_set (n : Nat) (S : List Nat) {k : Nat} (hk : k < n) : ((vecS n S).map ic).set k (.int .i64 1) = (vecS n (S ++ [k])).map ic := by
  refine List.ext_getElem? fun j => ?_
  rw [List.getElem?_set, List.length_map, vecS_len]
  by_cases e : k = j
  · subst e
    rw [if_pos rfl, if_pos hk, List.getElem?_map, vecS_at _ hk, if_pos (by simp)]; rfl
  · rw [if_neg e]
    by_cases hj : j < n
    · rw [List.getElem?_map, List.getElem?_map, vecS_at _ hj, vecS_at _ hj]
      by_cases hm : j ∈ S
      · rw [if_pos hm, if_pos (by simp [hm])]
      · rw [if_neg hm, if_neg (by simp [hm]; omega)]
    · rw [List.getElem?_eq_none (by rw [List.length_map, vecS_len]; omega), List.getElem?_eq_none (by rw [List.length_map, vecS_len]; omega)]
/-- The places that are tried, in order. -/
def candS (n : Nat) : List (List Nat) := [n - 1] :: ((List.range (n - 1)).map (fun i => [i]) ++ (List.range (n - 1)).map (fun i => [i, n - 1]))
theorem candS_len {n : Nat} (h : 1 ≤ n) : (candS n).length = n + (n - 1) := by simp [candS]; omega
theorem candS_0 (n : Nat) : (candS n)[0]? = some [n - 1] := rfl
theorem candS_1 {n k : Nat} (h : k < n - 1) : (candS n)[1 + k]? = some [k] := by
  unfold candS
  rw [Nat.add_comm, List.getElem?_cons_succ, List.getElem?_append_left (by simpa using h)]
  simp [h]
theorem candS_2 {n k : Nat} (h : k < n - 1) : (candS n)[n + k]? = some [k, n - 1] := by
  unfold candS
  rw [show n + k = (n - 1 + k) + 1 by omega, List.getElem?_cons_succ, List.getElem?_append_right (by simp), List.length_map, List.length_range, show n - 1 + k - (n - 1) = k by omega]
  simp [h]
theorem candS_in {n j : Nat} {S : List Nat} (h1 : 1 ≤ n) (h : (candS n)[j]? = some S) : (∀ s ∈ S, s < n) ∧ S.length ≤ 2 := by
  have hj := (List.getElem?_eq_some_iff.1 h).1
  rw [candS_len h1] at hj
  by_cases e0 : j = 0
  · subst e0
    rw [candS_0] at h
    obtain rfl := Option.some.inj h
    exact ⟨fun s hs => by simp at hs; omega, by simp⟩
  · by_cases e1 : j < n
    · rw [show j = 1 + (j - 1) by omega, candS_1 (by omega)] at h
      obtain rfl := Option.some.inj h
      exact ⟨fun s hs => by simp at hs; omega, by simp⟩
    · rw [show j = n + (j - n) by omega, candS_2 (by omega)] at h
      obtain rfl := Option.some.inj h
      exact ⟨fun s hs => by simp at hs; omega, by simp⟩
theorem take_more {α : Type} {l : List α} {k : Nat} {x : α} (h : l[k]? = some x) : l.take (k + 1) = l.take k ++ [x] := by rw [List.take_add_one, h]; rfl
theorem find_at {α : Type} {p : α → Bool} : ∀ {l : List α} {k : Nat} {x : α}, (∀ j y, j < k → l[j]? = some y → p y = false) → l[k]? = some x → p x = true → l.find? p = some x
  | [], _, _, _, h, _ => by simp at h
  | a :: l, 0, x, _, h, hp => by
    obtain rfl : a = x := by simpa using h
    simp [List.find?, hp]
  | a :: l, k + 1, x, h0, h, hp => by
    have ha := h0 0 a (by omega) rfl
    rw [List.find?_cons_of_neg (by rw [ha]; simp)]
    exact find_at (k := k) (fun j y hj hy => h0 (j + 1) y (by omega) (by simpa using hy)) (by simpa using h) hp
theorem find_no {α : Type} {p : α → Bool} {l : List α} (h : ∀ j y, j < l.length → l[j]? = some y → p y = false) : l.find? p = none := by
  refine List.find?_eq_none.2 fun y hy => ?_
  obtain ⟨j, hj⟩ := List.getElem?_of_mem hy
  rw [h j y (List.getElem?_eq_some_iff.1 hj).1 hj]; simp
/-- The node that closes with some places. -/
def closeN (n : Nat) (S : List Nat) : N5 := ⟨1, 0, (0, []), vecS n S⟩
def trivN (cs : List (Int × List Int)) : List N5 × Bool := match (candS cs.length).find? (fun S => closesB cs (vecS cs.length S)) with
  | some S => ([closeN cs.length S], true)
  | none => ([], false)
def trivR (ts : List (Int × List Int)) (g : Int × List Int) : List N5 × Bool := if (ctxR ts g).2 = true then trivN (ctxR ts g).1 else ([], false)
theorem trivR_no {ts : List (Int × List Int)} {g : Int × List Int} (h : (ctxR ts g).2 = false) : trivR ts g = ([], false) := if_neg (by rw [h]; simp)
theorem trivR_yes {ts : List (Int × List Int)} {g : Int × List Int} (h : (ctxR ts g).2 = true) : trivR ts g = trivN (ctxR ts g).1 := if_pos h
theorem ctxR_ok {ts : List (Int × List Int)} {g : Int × List Int} (h : (ctxR ts g).2 = true) : (∀ t ∈ (ctxR ts g).1, tmB t = true) ∧ (ctxR ts g).1.length = ts.length + 1 ∧ (ctxR ts g).1.length ≤ 14 := by
  have h14 := (ctx_small ts g).1
  unfold ctxR at h h14 ⊢
  split at h
  · rename_i hc
    rw [if_pos hc] at h14 ⊢
    have hp := seqB_parts hc.1
    refine ⟨fun t ht => ?_, by simp, h14⟩
    rcases List.mem_append.1 ht with h' | h'
    · exact hp.1 t h'
    · simp at h'
      subst h'
      rw [oppR_yes hp.2] at hc ⊢
      unfold mkL at hc ⊢
      split
      · rename_i hm; exact hm
      · rename_i hm; rw [if_neg hm] at hc; cases hc.2
  · cases h
theorem trivR_small (ts : List (Int × List Int)) (g : Int × List Int) : (trivR ts g).1.length ≤ 1 ∧ totN5 (trivR ts g).1 ≤ 14 := by
  have h14 := (ctx_small ts g).1
  unfold trivR
  split
  · unfold trivN
    split
    · simp [totN5, N5.tot, closeN, vecS_len]; omega
    · simp [totN5]
  · simp [totN5]
theorem own_full {w : World} {base : Nat} (cur : Array Value) (e : TypeId) (size n : Nat) (hb : base ≤ w.heap.size) (hn : n ≤ maxLen) (hs : cur.size = n * size) : (w.alloc (.cells cur e)).ownsRow base e size (.slice (some ⟨w.heap.size, 0, none⟩) n n) n cur.toList :=
  ⟨by simpa using hs, .inr ⟨w.heap.size, n, cur, rfl, hb, heap_alloc_new w _, Nat.le_refl _, hn, hs, by rw [List.take_of_length_le (by simp; omega)]⟩⟩
theorem own_zerosN {w : World} {g m lo : Nat} (h : w.heap[g]? = some (.cells (madeCells #[.int .i64 0] m) 2 (0, 0))) (hlo : lo ≤ g) (hm : m ≤ 1000) : w.ownsRow lo 2 1 (.slice (some ⟨g, 0, none⟩) m m) m (List.replicate m (.int .i64 0)) := by
  have hl : (madeCells #[.int .i64 0] m).toList = List.replicate m (.int .i64 0) := toList_madeCells_one _ _
  refine ⟨by simp, .inr ⟨g, m, _, rfl, hlo, h, Nat.le_refl _, by unfold maxLen; omega, ?_, ?_⟩⟩
  · rw [← Array.length_toList, hl]; simp
  · rw [hl]; simp

def oi : Option Nat → Int
  | none => -1
  | some k => k
theorem oi_none : oi none = -1 := rfl
theorem oi_some (k : Nat) : oi (some k) = (k : Int) := rfl


set_option maxRecDepth 100000 in
set_option maxHeartbeats 4000000 in
theorem l05Close_c (n : Nat) (x y : Option Nat) (w : World) (hn : n ≤ 20) (hx : ∀ k, x = some k → k < n) (hy : ∀ k, y = some k → k < n) :
    Calls Try.prog 50 #[.int .i64 n, .int .i64 (oi x), .int .i64 (oi y)] w fun e w' => ∃ g, e = .returned (.agg #[.int .i64 1, .int .i64 0, .int .i64 0, .slice none 0 0, .slice (some ⟨g, 0, none⟩) n n]) ∧ OwnL w' w.heap.size w'.heap.size (some ⟨g, 0, none⟩) n n (vecS n (x.toList ++ y.toList)) ∧ Below w.heap.size w w' := by
  have hmk := run_make_row' (P := Try.prog) 24 2 (.int .i64 0) 8 Try.underlying24 info64 rfl .i64 .i64 n (by omega) (by omega)
  have hb0 : Below w.heap.size w (((w.alloc (.cells #[.int .i64 0, .int .i64 0, .int .i64 0, .slice none 0 0, .slice none 0 0] 79)).alloc (.cells (madeCells #[.int .i64 0] n) 2)).alloc (.cells #[.int .i64 1, .int .i64 0, .int .i64 0, .slice none 0 0, .slice (some ⟨w.heap.size + 1, 0, none⟩) n n] 79)) := bon (bon (bnew _ _) (bnew _ _)) (bnew _ _)
  have hsz : (((w.alloc (.cells #[.int .i64 0, .int .i64 0, .int .i64 0, .slice none 0 0, .slice none 0 0] 79)).alloc (.cells (madeCells #[.int .i64 0] n) 2)).alloc (.cells #[.int .i64 1, .int .i64 0, .int .i64 0, .slice none 0 0, .slice (some ⟨w.heap.size + 1, 0, none⟩) n n] 79)).heap.size = w.heap.size + 3 := by simp
  have hR : BlkIs (((w.alloc (.cells #[.int .i64 0, .int .i64 0, .int .i64 0, .slice none 0 0, .slice none 0 0] 79)).alloc (.cells (madeCells #[.int .i64 0] n) 2)).alloc (.cells #[.int .i64 1, .int .i64 0, .int .i64 0, .slice none 0 0, .slice (some ⟨w.heap.size + 1, 0, none⟩) n n] 79)) w.heap.size 79 #[.int .i64 0, .int .i64 0, .int .i64 0, .slice none 0 0, .slice none 0 0] := ((blk_new w _ _ _ rfl).next (bnew _ _)).next (bnew _ _)
  have hN : BlkIs (((w.alloc (.cells #[.int .i64 0, .int .i64 0, .int .i64 0, .slice none 0 0, .slice none 0 0] 79)).alloc (.cells (madeCells #[.int .i64 0] n) 2)).alloc (.cells #[.int .i64 1, .int .i64 0, .int .i64 0, .slice none 0 0, .slice (some ⟨w.heap.size + 1, 0, none⟩) n n] 79)) (w.heap.size + 1 + 1) 79 #[.int .i64 1, .int .i64 0, .int .i64 0, .slice none 0 0, .slice (some ⟨w.heap.size + 1, 0, none⟩) n n] := blk_new _ _ _ _ (by simp)
  have hO : (((w.alloc (.cells #[.int .i64 0, .int .i64 0, .int .i64 0, .slice none 0 0, .slice none 0 0] 79)).alloc (.cells (madeCells #[.int .i64 0] n) 2)).alloc (.cells #[.int .i64 1, .int .i64 0, .int .i64 0, .slice none 0 0, .slice (some ⟨w.heap.size + 1, 0, none⟩) n n] 79)).ownsRow (w.heap.size + 1) 2 1 (.slice (some ⟨w.heap.size + 1, 0, none⟩) n n) n ((vecS n []).map ic) := by
    rw [vecS_nil]
    refine own_zerosN ?_ (Nat.le_refl _) (by omega)
    have h1 := heap_alloc_new (w.alloc (.cells #[.int .i64 0, .int .i64 0, .int .i64 0, .slice none 0 0, .slice none 0 0] 79)) (.cells (madeCells #[.int .i64 0] n) 2)
    rw [World.size_alloc] at h1
    exact (Below.heap_alloc ((w.alloc (.cells #[.int .i64 0, .int .i64 0, .int .i64 0, .slice none 0 0, .slice none 0 0] 79)).alloc (.cells (madeCells #[.int .i64 0] n) 2)) _ (w.heap.size + 1) (by simp)).trans h1
  have hHX := Lib.hid hx
  have hHY := Lib.hid hy
  clear hx hy
  rcases x with _ | k <;> rcases y with _ | q
  · skip
    rw [oi_none]
    have HR := Lib.hid hR
    have HN := Lib.hid hN
    have HO := Lib.hid hO
    have HSZ := Lib.hid hsz
    clear hR hN hO hsz hHX hHY
    go_enter Try.func50, Try.ntmps50
    go_upto_region 2 with fail
    generalize (((w.alloc (.cells #[.int .i64 0, .int .i64 0, .int .i64 0, .slice none 0 0, .slice none 0 0] 79)).alloc (.cells (madeCells #[.int .i64 0] n) 2)).alloc (.cells #[.int .i64 1, .int .i64 0, .int .i64 0, .slice none 0 0, .slice (some ⟨w.heap.size + 1, 0, none⟩) n n] 79)) = W at hb0 HSZ HR HN HO ⊢
    go_upto_region 4 with fail
    go_upto_region 6 with fail
    have q0 := HN.out.cell 0
    have r0 := HR.out.cell 0
    have z0 := HR.out.frozen 0
    have q1 := HN.out.cell 1
    have r1 := HR.out.cell 1
    have z1 := HR.out.frozen 1
    have q2 := HN.out.cell 2
    have r2 := HR.out.cell 2
    have z2 := HR.out.frozen 2
    have q3 := HN.out.cell 3
    have r3 := HR.out.cell 3
    have z3 := HR.out.frozen 3
    have q4 := HN.out.cell 4
    have r4 := HR.out.cell 4
    have z4 := HR.out.frozen 4
    simp at q0 q1 q2 q3 q4 r0 r1 r2 r3 r4
    have hoF : Out w.heap.size (w.heap.size + 1) W (((((W.setCell ⟨w.heap.size, 0, none⟩ (.int .i64 1)).setCell ⟨w.heap.size, 1, none⟩ (.int .i64 0)).setCell ⟨w.heap.size, 2, none⟩ (.int .i64 0)).setCell ⟨w.heap.size, 3, none⟩ (.slice none 0 0)).setCell ⟨w.heap.size, 4, none⟩ (.slice (some ⟨w.heap.size + 1, 0, none⟩) n n)) := out_set (out_set (out_set (out_set (out_set (Out.refl _ _ _) (by omega)) (by omega)) (by omega)) (by omega)) (by omega)
    have hsF := hoF.size
    have hsW := HSZ.out
    have HB := Lib.hid (hb0.trans (hoF.below (Nat.le_refl _) (by omega)))
    have HOW := Lib.hid ((((OwnL.of_own HO.out).out hoF (.inl (Nat.le_refl _))).less (lo' := w.heap.size) (Nat.le_succ _)).wide (by omega) (Nat.le_refl _))
    clear hoF hsF hsW
    go_wp2_with fail
    refine bodyPost_ret (v := .agg #[.int .i64 1, .int .i64 0, .int .i64 0, .slice none 0 0, .slice (some ⟨w.heap.size + 1, 0, none⟩) n n]) (by simp [results, Try.results50, go_sem, r0, r1, r2, r3, r4]) rfl ?_
    exact ⟨w.heap.size + 1, rfl, HOW.out, HB.out⟩
  · skip
    have hq := hHY.out q rfl
    have hq2 : (0 : Int) ≤ (q : Int) := by omega
    have hq3 : (q : Int) < (n : Int) := by omega
    rw [oi_some, oi_none]
    have HR := Lib.hid hR
    have HN := Lib.hid hN
    have HO := Lib.hid hO
    have HSZ := Lib.hid hsz
    clear hR hN hO hsz hHX hHY
    go_enter Try.func50, Try.ntmps50
    go_upto_region 2 with fail
    generalize (((w.alloc (.cells #[.int .i64 0, .int .i64 0, .int .i64 0, .slice none 0 0, .slice none 0 0] 79)).alloc (.cells (madeCells #[.int .i64 0] n) 2)).alloc (.cells #[.int .i64 1, .int .i64 0, .int .i64 0, .slice none 0 0, .slice (some ⟨w.heap.size + 1, 0, none⟩) n n] 79)) = W at hb0 HSZ HR HN HO ⊢
    go_upto_region 4 with fail
    have n4 := HN.out.cell 4
    simp at n4
    obtain ⟨u, hu⟩ : ∃ u, ((vecS n ([])).map ic)[q]? = some u := ⟨_, List.getElem?_eq_getElem (by rw [List.length_map, vecS_len]; omega)⟩
    have hc := HO.out.cellAt q (by omega)
    rw [hu] at hc
    have hf := HO.out.frozenAt q
    have hs := (HO.out.stored q (.int .i64 1)).1
    rw [vecS_set n ([]) (by omega)] at hs
    replace HO := Lib.hid hs
    replace HN := Lib.hid (HN.out.far (g' := w.heap.size + 1) (by omega) q (.int .i64 1))
    replace HR := Lib.hid (HR.out.far (g' := w.heap.size + 1) (by omega) q (.int .i64 1))
    replace HSZ : Hid ((W.setCell ⟨w.heap.size + 1, q, none⟩ (.int .i64 1)).heap.size = w.heap.size + 3) := by show _ = _; rw [← HSZ.out]; simp
    replace hb0 := hb0.setCell (p := ⟨w.heap.size + 1, q, none⟩) (Nat.le_succ _) (.int .i64 1)
    clear hu hs
    go_upto_region 6 with fail
    clear n4 hc hf
    generalize W.setCell ⟨w.heap.size + 1, q, none⟩ (.int .i64 1) = V at hb0 HSZ HR HN HO ⊢
    obtain ⟨W, hWV⟩ : ∃ z, z = V := ⟨_, rfl⟩
    subst hWV
    have q0 := HN.out.cell 0
    have r0 := HR.out.cell 0
    have z0 := HR.out.frozen 0
    have q1 := HN.out.cell 1
    have r1 := HR.out.cell 1
    have z1 := HR.out.frozen 1
    have q2 := HN.out.cell 2
    have r2 := HR.out.cell 2
    have z2 := HR.out.frozen 2
    have q3 := HN.out.cell 3
    have r3 := HR.out.cell 3
    have z3 := HR.out.frozen 3
    have q4 := HN.out.cell 4
    have r4 := HR.out.cell 4
    have z4 := HR.out.frozen 4
    simp at q0 q1 q2 q3 q4 r0 r1 r2 r3 r4
    have hoF : Out w.heap.size (w.heap.size + 1) W (((((W.setCell ⟨w.heap.size, 0, none⟩ (.int .i64 1)).setCell ⟨w.heap.size, 1, none⟩ (.int .i64 0)).setCell ⟨w.heap.size, 2, none⟩ (.int .i64 0)).setCell ⟨w.heap.size, 3, none⟩ (.slice none 0 0)).setCell ⟨w.heap.size, 4, none⟩ (.slice (some ⟨w.heap.size + 1, 0, none⟩) n n)) := out_set (out_set (out_set (out_set (out_set (Out.refl _ _ _) (by omega)) (by omega)) (by omega)) (by omega)) (by omega)
    have hsF := hoF.size
    have hsW := HSZ.out
    have HB := Lib.hid (hb0.trans (hoF.below (Nat.le_refl _) (by omega)))
    have HOW := Lib.hid ((((OwnL.of_own HO.out).out hoF (.inl (Nat.le_refl _))).less (lo' := w.heap.size) (Nat.le_succ _)).wide (by omega) (Nat.le_refl _))
    clear hoF hsF hsW
    go_wp2_with fail
    refine bodyPost_ret (v := .agg #[.int .i64 1, .int .i64 0, .int .i64 0, .slice none 0 0, .slice (some ⟨w.heap.size + 1, 0, none⟩) n n]) (by simp [results, Try.results50, go_sem, r0, r1, r2, r3, r4]) rfl ?_
    exact ⟨w.heap.size + 1, rfl, HOW.out, HB.out⟩
  · skip
    have hk := hHX.out k rfl
    have hk2 : (0 : Int) ≤ (k : Int) := by omega
    have hk3 : (k : Int) < (n : Int) := by omega
    rw [oi_some, oi_none]
    have HR := Lib.hid hR
    have HN := Lib.hid hN
    have HO := Lib.hid hO
    have HSZ := Lib.hid hsz
    clear hR hN hO hsz hHX hHY
    go_enter Try.func50, Try.ntmps50
    go_upto_region 2 with fail
    generalize (((w.alloc (.cells #[.int .i64 0, .int .i64 0, .int .i64 0, .slice none 0 0, .slice none 0 0] 79)).alloc (.cells (madeCells #[.int .i64 0] n) 2)).alloc (.cells #[.int .i64 1, .int .i64 0, .int .i64 0, .slice none 0 0, .slice (some ⟨w.heap.size + 1, 0, none⟩) n n] 79)) = W at hb0 HSZ HR HN HO ⊢
    have n4 := HN.out.cell 4
    simp at n4
    obtain ⟨u, hu⟩ : ∃ u, ((vecS n ([])).map ic)[k]? = some u := ⟨_, List.getElem?_eq_getElem (by rw [List.length_map, vecS_len]; omega)⟩
    have hc := HO.out.cellAt k (by omega)
    rw [hu] at hc
    have hf := HO.out.frozenAt k
    have hs := (HO.out.stored k (.int .i64 1)).1
    rw [vecS_set n ([]) (by omega)] at hs
    replace HO := Lib.hid hs
    replace HN := Lib.hid (HN.out.far (g' := w.heap.size + 1) (by omega) k (.int .i64 1))
    replace HR := Lib.hid (HR.out.far (g' := w.heap.size + 1) (by omega) k (.int .i64 1))
    replace HSZ : Hid ((W.setCell ⟨w.heap.size + 1, k, none⟩ (.int .i64 1)).heap.size = w.heap.size + 3) := by show _ = _; rw [← HSZ.out]; simp
    replace hb0 := hb0.setCell (p := ⟨w.heap.size + 1, k, none⟩) (Nat.le_succ _) (.int .i64 1)
    clear hu hs
    go_upto_region 4 with fail
    clear n4 hc hf
    generalize W.setCell ⟨w.heap.size + 1, k, none⟩ (.int .i64 1) = V at hb0 HSZ HR HN HO ⊢
    obtain ⟨W, hWV⟩ : ∃ z, z = V := ⟨_, rfl⟩
    subst hWV
    go_upto_region 6 with fail
    have q0 := HN.out.cell 0
    have r0 := HR.out.cell 0
    have z0 := HR.out.frozen 0
    have q1 := HN.out.cell 1
    have r1 := HR.out.cell 1
    have z1 := HR.out.frozen 1
    have q2 := HN.out.cell 2
    have r2 := HR.out.cell 2
    have z2 := HR.out.frozen 2
    have q3 := HN.out.cell 3
    have r3 := HR.out.cell 3
    have z3 := HR.out.frozen 3
    have q4 := HN.out.cell 4
    have r4 := HR.out.cell 4
    have z4 := HR.out.frozen 4
    simp at q0 q1 q2 q3 q4 r0 r1 r2 r3 r4
    have hoF : Out w.heap.size (w.heap.size + 1) W (((((W.setCell ⟨w.heap.size, 0, none⟩ (.int .i64 1)).setCell ⟨w.heap.size, 1, none⟩ (.int .i64 0)).setCell ⟨w.heap.size, 2, none⟩ (.int .i64 0)).setCell ⟨w.heap.size, 3, none⟩ (.slice none 0 0)).setCell ⟨w.heap.size, 4, none⟩ (.slice (some ⟨w.heap.size + 1, 0, none⟩) n n)) := out_set (out_set (out_set (out_set (out_set (Out.refl _ _ _) (by omega)) (by omega)) (by omega)) (by omega)) (by omega)
    have hsF := hoF.size
    have hsW := HSZ.out
    have HB := Lib.hid (hb0.trans (hoF.below (Nat.le_refl _) (by omega)))
    have HOW := Lib.hid ((((OwnL.of_own HO.out).out hoF (.inl (Nat.le_refl _))).less (lo' := w.heap.size) (Nat.le_succ _)).wide (by omega) (Nat.le_refl _))
    clear hoF hsF hsW
    go_wp2_with fail
    refine bodyPost_ret (v := .agg #[.int .i64 1, .int .i64 0, .int .i64 0, .slice none 0 0, .slice (some ⟨w.heap.size + 1, 0, none⟩) n n]) (by simp [results, Try.results50, go_sem, r0, r1, r2, r3, r4]) rfl ?_
    exact ⟨w.heap.size + 1, rfl, HOW.out, HB.out⟩
  · skip
    have hk := hHX.out k rfl
    have hk2 : (0 : Int) ≤ (k : Int) := by omega
    have hk3 : (k : Int) < (n : Int) := by omega
    have hq := hHY.out q rfl
    have hq2 : (0 : Int) ≤ (q : Int) := by omega
    have hq3 : (q : Int) < (n : Int) := by omega
    rw [oi_some, oi_some]
    have HR := Lib.hid hR
    have HN := Lib.hid hN
    have HO := Lib.hid hO
    have HSZ := Lib.hid hsz
    clear hR hN hO hsz hHX hHY
    go_enter Try.func50, Try.ntmps50
    go_upto_region 2 with fail
    generalize (((w.alloc (.cells #[.int .i64 0, .int .i64 0, .int .i64 0, .slice none 0 0, .slice none 0 0] 79)).alloc (.cells (madeCells #[.int .i64 0] n) 2)).alloc (.cells #[.int .i64 1, .int .i64 0, .int .i64 0, .slice none 0 0, .slice (some ⟨w.heap.size + 1, 0, none⟩) n n] 79)) = W at hb0 HSZ HR HN HO ⊢
    have n4 := HN.out.cell 4
    simp at n4
    obtain ⟨u, hu⟩ : ∃ u, ((vecS n ([])).map ic)[k]? = some u := ⟨_, List.getElem?_eq_getElem (by rw [List.length_map, vecS_len]; omega)⟩
    have hc := HO.out.cellAt k (by omega)
    rw [hu] at hc
    have hf := HO.out.frozenAt k
    have hs := (HO.out.stored k (.int .i64 1)).1
    rw [vecS_set n ([]) (by omega)] at hs
    replace HO := Lib.hid hs
    replace HN := Lib.hid (HN.out.far (g' := w.heap.size + 1) (by omega) k (.int .i64 1))
    replace HR := Lib.hid (HR.out.far (g' := w.heap.size + 1) (by omega) k (.int .i64 1))
    replace HSZ : Hid ((W.setCell ⟨w.heap.size + 1, k, none⟩ (.int .i64 1)).heap.size = w.heap.size + 3) := by show _ = _; rw [← HSZ.out]; simp
    replace hb0 := hb0.setCell (p := ⟨w.heap.size + 1, k, none⟩) (Nat.le_succ _) (.int .i64 1)
    clear hu hs
    go_upto_region 4 with fail
    clear n4 hc hf
    generalize W.setCell ⟨w.heap.size + 1, k, none⟩ (.int .i64 1) = V at hb0 HSZ HR HN HO ⊢
    obtain ⟨W, hWV⟩ : ∃ z, z = V := ⟨_, rfl⟩
    subst hWV
    have n4 := HN.out.cell 4
    simp at n4
    obtain ⟨u, hu⟩ : ∃ u, ((vecS n ([] ++ [k])).map ic)[q]? = some u := ⟨_, List.getElem?_eq_getElem (by rw [List.length_map, vecS_len]; omega)⟩
    have hc := HO.out.cellAt q (by omega)
    rw [hu] at hc
    have hf := HO.out.frozenAt q
    have hs := (HO.out.stored q (.int .i64 1)).1
    rw [vecS_set n ([] ++ [k]) (by omega)] at hs
    replace HO := Lib.hid hs
    replace HN := Lib.hid (HN.out.far (g' := w.heap.size + 1) (by omega) q (.int .i64 1))
    replace HR := Lib.hid (HR.out.far (g' := w.heap.size + 1) (by omega) q (.int .i64 1))
    replace HSZ : Hid ((W.setCell ⟨w.heap.size + 1, q, none⟩ (.int .i64 1)).heap.size = w.heap.size + 3) := by show _ = _; rw [← HSZ.out]; simp
    replace hb0 := hb0.setCell (p := ⟨w.heap.size + 1, q, none⟩) (Nat.le_succ _) (.int .i64 1)
    clear hu hs
    go_upto_region 6 with fail
    clear n4 hc hf
    generalize W.setCell ⟨w.heap.size + 1, q, none⟩ (.int .i64 1) = V at hb0 HSZ HR HN HO ⊢
    obtain ⟨W, hWV⟩ : ∃ z, z = V := ⟨_, rfl⟩
    subst hWV
    have q0 := HN.out.cell 0
    have r0 := HR.out.cell 0
    have z0 := HR.out.frozen 0
    have q1 := HN.out.cell 1
    have r1 := HR.out.cell 1
    have z1 := HR.out.frozen 1
    have q2 := HN.out.cell 2
    have r2 := HR.out.cell 2
    have z2 := HR.out.frozen 2
    have q3 := HN.out.cell 3
    have r3 := HR.out.cell 3
    have z3 := HR.out.frozen 3
    have q4 := HN.out.cell 4
    have r4 := HR.out.cell 4
    have z4 := HR.out.frozen 4
    simp at q0 q1 q2 q3 q4 r0 r1 r2 r3 r4
    have hoF : Out w.heap.size (w.heap.size + 1) W (((((W.setCell ⟨w.heap.size, 0, none⟩ (.int .i64 1)).setCell ⟨w.heap.size, 1, none⟩ (.int .i64 0)).setCell ⟨w.heap.size, 2, none⟩ (.int .i64 0)).setCell ⟨w.heap.size, 3, none⟩ (.slice none 0 0)).setCell ⟨w.heap.size, 4, none⟩ (.slice (some ⟨w.heap.size + 1, 0, none⟩) n n)) := out_set (out_set (out_set (out_set (out_set (Out.refl _ _ _) (by omega)) (by omega)) (by omega)) (by omega)) (by omega)
    have hsF := hoF.size
    have hsW := HSZ.out
    have HB := Lib.hid (hb0.trans (hoF.below (Nat.le_refl _) (by omega)))
    have HOW := Lib.hid ((((OwnL.of_own HO.out).out hoF (.inl (Nat.le_refl _))).less (lo' := w.heap.size) (Nat.le_succ _)).wide (by omega) (Nat.le_refl _))
    clear hoF hsF hsW
    go_wp2_with fail
    refine bodyPost_ret (v := .agg #[.int .i64 1, .int .i64 0, .int .i64 0, .slice none 0 0, .slice (some ⟨w.heap.size + 1, 0, none⟩) n n]) (by simp [results, Try.results50, go_sem, r0, r1, r2, r3, r4]) rfl ?_
    exact ⟨w.heap.size + 1, rfl, HOW.out, HB.out⟩
end Go.Proofs.Ytapndnkcmmpdjaa
