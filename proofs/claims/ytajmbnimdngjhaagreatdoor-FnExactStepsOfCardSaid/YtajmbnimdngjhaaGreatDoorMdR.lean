/-
  The model's run of a program. Conditions: a valid body and state, a fuel from 0 to 2000.
-/
import Derived.Test.YtajmbnimdngjhaaGreatDoorMdS
import Derived.Test.YtajmbnimdngjhaaGreatDoorRunX
namespace Go.Proofs.YtajmbnimdngjhaaGreatDoor
set_option linter.unusedVariables false
open Go.RowKit

theorem infoInt_w : (Tryz.prog.info? 3).map (fun i => (i.zero, i.size, i.bytes)) = some (some (.int .i64 0), 1, 8) := by kernel_rfl
theorem infoInt_e : (Tryz.prog.info? 2).map (fun i => (i.zero, i.size, i.bytes)) = some (some (.int .i64 0), 1, 8) := by kernel_rfl
theorem own_emptyE {w : World} {base g : Nat} {t : TypeId} (h : w.heap[g]? = some (.cells #[] t (0, 0))) (hb : base ≤ g) : w.ownsRow base t 1 (.slice (some ⟨g, 0, none⟩) 0 0) 0 [] := ⟨rfl, .inr ⟨g, 0, #[], rfl, hb, h, Nat.le_refl _, Nat.zero_le _, rfl, rfl⟩⟩
theorem own_single {w : World} {base g : Nat} {t : TypeId} {v : Value} (h : w.heap[g]? = some (.cells #[v] t (0, 0))) (hb : base ≤ g) : w.ownsRow base t 1 (.slice (some ⟨g, 0, none⟩) 1 1) 1 [v] := ⟨rfl, .inr ⟨g, 1, #[v], rfl, hb, h, Nat.le_refl _, by unfold maxLen; omega, rfl, rfl⟩⟩
theorem OwnL.exactE {w : World} {base n c g hi : Nat} {l : List Int} (h : OwnL w base hi (some ⟨g, 0, none⟩) n c l) : OwnL w g (g + 1) (some ⟨g, 0, none⟩) n c l := by
  have hlt := h.2.2.1 g rfl
  have hw := h.2.2.2
  refine ⟨h.1, ⟨h.2.1.1, ?_⟩, (fun k hk => by have hk' : some g = some k := hk; injection hk' with e; omega), by omega⟩
  rcases h.2.1.2 with ⟨h1, h2⟩ | ⟨b, cap, cur, h1, h2, r⟩
  · cases h1
  · have h1' := h1
    injection h1 with e _ _
    injection e with e
    injection e with e _ _
    exact .inr ⟨b, cap, cur, h1', by omega, r⟩
theorem OwnL.someE {w : World} {lo hi n c : Nat} {A : Option Addr} {l : List Int} (h : OwnL w lo hi A n c l) (hn : 0 < n) : ∃ b, A = some ⟨b, 0, none⟩ ∧ lo ≤ b ∧ b < hi := by
  rcases h.2.1.2 with ⟨h1, h2⟩ | ⟨b, cap, cur, h1, h2, r⟩
  · omega
  · have h1' := h1
    injection h1 with e _ _
    subst e
    exact ⟨b, rfl, h2, h.2.2.1 b rfl⟩
theorem own_capE {w : World} {base size n c : Nat} {t : TypeId} {A : Option Addr} {l : List Value} (h : w.ownsRow base t size (.slice A n c) n l) : n ≤ c := by
  rcases h.2 with ⟨h1, h2⟩ | ⟨b, cap, cur, h1, h2, h3, h4, _⟩
  · omega
  · injection h1 with _ _ e
    omega
section
variable {w wr : World} {base sb gv cv gc cc ge ce gw cw : Nat} {s : RS} {ws : List Nat}
theorem MdM.bz (h : MdM w base sb gv cv gc cc ge ce gw cw s ws) : base ≤ w.heap.size := Nat.le_trans h.bs (Nat.le_of_lt h.lt.1)
theorem MdM.kb (h : MdM w base sb gv cv gc cc ge ce gw cw s ws) : base ≤ gw := (h.k.lt gw rfl).1
theorem MdM.eb (h : MdM w base sb gv cv gc cc ge ce gw cw s ws) : base ≤ ge := (h.e.lt ge rfl).1
theorem MdM.leave (h : MdM wr (w.heap.size + 1) sb gv cv gc cc ge ce gw cw s ws) (hR : BlkIs wr w.heap.size 31 #[.slice none 0 0, .slice none 0 0]) (hb : Below w.heap.size w wr) :
    ((wr.setCell ⟨w.heap.size, 0, none⟩ (.slice (some ⟨gv, 0, none⟩) 4 cv)).setCell ⟨w.heap.size, 1, none⟩ (.slice (some ⟨gc, 0, none⟩) 8 cc)).cell? ⟨w.heap.size, 0, none⟩ = some (.slice (some ⟨gv, 0, none⟩) 4 cv) ∧
    ((wr.setCell ⟨w.heap.size, 0, none⟩ (.slice (some ⟨gv, 0, none⟩) 4 cv)).setCell ⟨w.heap.size, 1, none⟩ (.slice (some ⟨gc, 0, none⟩) 8 cc)).cell? ⟨w.heap.size, 1, none⟩ = some (.slice (some ⟨gc, 0, none⟩) 8 cc) ∧
    OwnL ((wr.setCell ⟨w.heap.size, 0, none⟩ (.slice (some ⟨gv, 0, none⟩) 4 cv)).setCell ⟨w.heap.size, 1, none⟩ (.slice (some ⟨gc, 0, none⟩) 8 cc)) w.heap.size ((wr.setCell ⟨w.heap.size, 0, none⟩ (.slice (some ⟨gv, 0, none⟩) 4 cv)).setCell ⟨w.heap.size, 1, none⟩ (.slice (some ⟨gc, 0, none⟩) 8 cc)).heap.size (some ⟨gv, 0, none⟩) 4 cv s.v ∧
    OwnL ((wr.setCell ⟨w.heap.size, 0, none⟩ (.slice (some ⟨gv, 0, none⟩) 4 cv)).setCell ⟨w.heap.size, 1, none⟩ (.slice (some ⟨gc, 0, none⟩) 8 cc)) w.heap.size ((wr.setCell ⟨w.heap.size, 0, none⟩ (.slice (some ⟨gv, 0, none⟩) 4 cv)).setCell ⟨w.heap.size, 1, none⟩ (.slice (some ⟨gc, 0, none⟩) 8 cc)).heap.size (some ⟨gc, 0, none⟩) 8 cc s.c ∧
    OwnL ((wr.setCell ⟨w.heap.size, 0, none⟩ (.slice (some ⟨gv, 0, none⟩) 4 cv)).setCell ⟨w.heap.size, 1, none⟩ (.slice (some ⟨gc, 0, none⟩) 8 cc)) w.heap.size ((wr.setCell ⟨w.heap.size, 0, none⟩ (.slice (some ⟨gv, 0, none⟩) 4 cv)).setCell ⟨w.heap.size, 1, none⟩ (.slice (some ⟨gc, 0, none⟩) 8 cc)).heap.size (some ⟨ge, 0, none⟩) s.e.length ce s.e ∧
    Below w.heap.size w ((wr.setCell ⟨w.heap.size, 0, none⟩ (.slice (some ⟨gv, 0, none⟩) 4 cv)).setCell ⟨w.heap.size, 1, none⟩ (.slice (some ⟨gc, 0, none⟩) 8 cc)) := by
  have hR5 := (hR.set 0 (.slice (some ⟨gv, 0, none⟩) 4 cv)).set 1 (.slice (some ⟨gc, 0, none⟩) 8 cc)
  have ho : Out w.heap.size (w.heap.size + 1) wr ((wr.setCell ⟨w.heap.size, 0, none⟩ (.slice (some ⟨gv, 0, none⟩) 4 cv)).setCell ⟨w.heap.size, 1, none⟩ (.slice (some ⟨gc, 0, none⟩) 8 cc)) := out_set (out_set (Out.refl _ _ _) (by omega)) (by omega)
  have hs := ho.size
  have hl := h.lt
  have b1 := h.bv
  have b2 := h.bc
  have b3 := (h.e.lt ge rfl).1
  refine ⟨by rw [hR5.cell 0]; simp, by rw [hR5.cell 1]; simp, ((h.v.out ho (by omega)).less (by omega)).wide (by omega) (Nat.le_refl _), ((h.c.out ho (by omega)).less (by omega)).wide (by omega) (Nat.le_refl _), ?_, hb.trans (ho.below (Nat.le_refl _) hb.size)⟩
  exact (OwnL.of_own (ownE_out h.e ho (fun b e => by cases e; omega))).less (by omega)
end
/-- How many elements a statement has that begins at an index. -/
def lenAt (xs : List S8) (k : Nat) : Nat := (endL 1 (xs.drop k) k).toNat - k
theorem AtT.len {xs : List S8} {k : Nat} {t : Tr} (h : AtT xs k t) : lenAt xs k = (flatT t).length := by
  obtain ⟨r, h1, h2⟩ := h
  unfold lenAt
  rw [h1, endL_flat t r 1 k h2 (by omega), endL_done]
  omega
theorem AtTs.sz {xs : List S8} {ws : List Nat} {ts : List Tr} (h : AtTs xs ws ts) : (ws.reverse.map (lenAt xs)).sum = szT ts := by
  induction h with
  | nil => rfl
  | cons h _ ih => rw [List.reverse_cons, List.map_append, List.sum_append, ih, szT_cons]; simp [h.len]; omega
def readWs (v : Value) (w : World) : List Nat := match v with
  | .slice (some a) n _ => (List.range n).map fun j => (intOf ((w.cell? ⟨a.block, j, none⟩).getD undef)).toNat
  | _ => []
theorem MdM.readWs {w : World} {base sb gv cv gc cc ge ce gw cw : Nat} {s : RS} {ws : List Nat} (h : MdM w base sb gv cv gc cc ge ce gw cw s ws) : readWs (.slice (some ⟨gw, 0, none⟩) ws.length cw) w = ws.reverse := by
  unfold Go.Proofs.YtajmbnimdngjhaaGreatDoor.readWs
  simp only
  apply List.ext_getElem
  · simp
  intro j h1 h2
  simp only [List.getElem_map, List.getElem_range]
  simp only [List.length_map, List.length_range] at h1
  rw [h.k.cellAt j (by omega), List.getElem?_map, List.getElem?_eq_getElem h2]
  simp [nc, intOf]
def measM (xs : List S8) (F : Nat) (st wk : Value) (w : World) : Nat := (F - (intOf st).toNat) * 61 + ((readWs wk w).map (lenAt xs)).sum
theorem MdM.meas {w : World} {base sb gv cv gc cc ge ce gw cw : Nat} {s : RS} {ws : List Nat} {ts : List Tr} {xs : List S8} {F : Nat} (h : MdM w base sb gv cv gc cc ge ce gw cw s ws) (ha : AtTs xs ws ts) : measM xs F (.int .i64 (s.n : Int)) (.slice (some ⟨gw, 0, none⟩) ws.length cw) w = farT F 30 ts s := by
  unfold measM farT
  rw [h.readWs, ha.sz]
  simp [intOf]
/-- What the model's run gives. -/
def RunMQ (w : World) (o : Int) (s : RS) : Ending → World → Prop := fun e w' => ∃ (A : Option Addr) (c : Nat) (A' : Option Addr) (c' : Nat) (E : Option Addr) (ce : Nat), e = .returned (.tuple #[.agg #[.slice A 4 c, .slice A' 8 c'], .slice E s.e.length ce, .int .i64 o, .int .i64 (s.n : Int)]) ∧
  OwnL w' w.heap.size w'.heap.size A 4 c s.v ∧ OwnL w' w.heap.size w'.heap.size A' 8 c' s.c ∧ OwnL w' w.heap.size w'.heap.size E s.e.length ce s.e ∧ Below w.heap.size w w'

set_option maxRecDepth 100000 in
set_option maxHeartbeats 4000000 in
theorem l03Run_c (pb : Nat) (D : Option Addr) (m d B : Nat) (xs : List S8) (sb0 : Nat) (A : Option Addr) (c : Nat) (vs : List Int) (A' : Option Addr) (c' : Nat) (zs : List Int) (F : Nat) (o' : Int) (s' : RS) (t : Tr) (w : World) (hp : w.cell? ⟨pb, 1, none⟩ = some (.slice D m d)) (hD : InST w B D m xs) (hB : B ≤ w.heap.size)
    (hxs : xs = flatT t) (hwf : WfT t) (hok : ∀ x ∈ xs, stmtB x = true) (hlen : xs.length ≤ 30) (hmd : m ≤ d) (q0 : w.cell? ⟨sb0, 0, none⟩ = some (.slice A 4 c)) (q1 : w.cell? ⟨sb0, 1, none⟩ = some (.slice A' 8 c')) (h0 : InL w w.heap.size A 4 vs) (h1 : InL w w.heap.size A' 8 zs) (g : GoodR F ⟨vs, zs, [], 0⟩) (hgo : Go F [t] ⟨vs, zs, [], 0⟩ o' s') :
    Calls Tryz.prog 37 #[.pointer (some ⟨pb, 0, none⟩), .pointer (some ⟨sb0, 0, none⟩), .int .i64 (F : Int)] w (RunMQ w o' s') := by
  obtain ⟨i0, hif, hz0, hz1, hz2⟩ := info_parts infoInt_w
  obtain ⟨j0, jif, jz0, jz1, jz2⟩ := info_parts infoInt_e
  have hF2 := g.f
  have hml : m ≤ 30 := by have := hD.1; omega
  have hpl := cell_lt hp
  have hb0 : Below w.heap.size w (w.alloc (.cells #[.slice none 0 0, .slice none 0 0] 31)) := bnew _ _
  have hR : BlkIs (w.alloc (.cells #[.slice none 0 0, .slice none 0 0] 31)) w.heap.size 31 #[.slice none 0 0, .slice none 0 0] := blk_new _ _ _ _ rfl
  have hsz : (w.alloc (.cells #[.slice none 0 0, .slice none 0 0] 31)).heap.size = w.heap.size + 1 := by simp
  have HOW := Lib.hid (l03Own_s sb0 A 4 c vs A' 8 c' zs w.heap.size (w.alloc (.cells #[.slice none 0 0, .slice none 0 0] 31)) (cell_next q0 hb0) (cell_next q1 hb0) (h0.next hb0 (Nat.le_refl _)) (h1.next hb0 (Nat.le_refl _)) (by omega) (by omega) (by omega))
  have HD0 := Lib.hid (hD.next hb0 hB)
  have hp0 := cell_next hp hb0
  have HG := Lib.hid g
  have HGO := Lib.hid hgo
  have HOK := Lib.hid hok
  have HXS := Lib.hid hxs
  have HLX := Lib.hid hD.1
  have HAT : Hid (AtTs xs [0] [t]) := .cons ⟨[], by rw [hxs]; simp, hwf⟩ .nil
  have HFAR : Hid (farT F 30 [t] ⟨vs, zs, [], 0⟩ ≤ 200000) := by
    show farT F 30 [t] ⟨vs, zs, [], 0⟩ ≤ 200000
    unfold farT
    rw [szT_cons, show szT [] = 0 from rfl, ← hxs]
    have e1 : F - (⟨vs, zs, [], 0⟩ : RS).n = F := rfl
    rw [e1]
    omega
  clear q0 q1 h0 h1 hD g hgo hok hxs hwf hp
  go_enter Tryz.func37, Tryz.ntmps37
  go_wp2_with fail
  generalize w.alloc (.cells #[.slice none 0 0, .slice none 0 0] 31) = W at hb0 hR hsz HOW HD0 hp0 ⊢
  refine HOW.out.mono ?_
  rintro e v1 ⟨X, cv, X', cc, mid, rfl, ow1, ow1', hmd1, hb1⟩
  obtain ⟨gv, rfl, hgv1, hgv2⟩ := ow1.someE (by omega)
  obtain ⟨gc, rfl, hgc1, hgc2⟩ := ow1'.someE (by omega)
  have hz1' := hb1.size
  have hbA : Below v1.heap.size v1 (((v1.alloc (.cells #[.slice (some ⟨gv, 0, none⟩) 4 cv, .slice (some ⟨gc, 0, none⟩) 8 cc] 31)).alloc (.cells #[] 2)).alloc (.cells #[.int .i64 0] 3)) := bon (bon (bnew _ _) (bnew _ _)) (bnew _ _)
  have hszA : (((v1.alloc (.cells #[.slice (some ⟨gv, 0, none⟩) 4 cv, .slice (some ⟨gc, 0, none⟩) 8 cc] 31)).alloc (.cells #[] 2)).alloc (.cells #[.int .i64 0] 3)).heap.size = v1.heap.size + 3 := by simp
  have n1 : (v1.alloc (.cells #[.slice (some ⟨gv, 0, none⟩) 4 cv, .slice (some ⟨gc, 0, none⟩) 8 cc] 31)).heap.size = v1.heap.size + 1 := by simp
  have n2 : ((v1.alloc (.cells #[.slice (some ⟨gv, 0, none⟩) 4 cv, .slice (some ⟨gc, 0, none⟩) 8 cc] 31)).alloc (.cells #[] 2)).heap.size = v1.heap.size + 2 := by simp
  have hM0 : MdM (((v1.alloc (.cells #[.slice (some ⟨gv, 0, none⟩) 4 cv, .slice (some ⟨gc, 0, none⟩) 8 cc] 31)).alloc (.cells #[] 2)).alloc (.cells #[.int .i64 0] 3)) (w.heap.size + 1) v1.heap.size gv cv gc cc (v1.heap.size + 1) 0 (v1.heap.size + 2) 1 ⟨vs, zs, [], 0⟩ [0] :=
    ⟨(blk_new v1 _ _ _ rfl).next (bon (bnew _ _) (bnew _ _)), ow1.exactE.next hbA, ow1'.exactE.next hbA, own_emptyE ((blk_new (v1.alloc (.cells #[.slice (some ⟨gv, 0, none⟩) 4 cv, .slice (some ⟨gc, 0, none⟩) 8 cc] 31)) 2 #[] (v1.heap.size + 1) n1.symm).next (bnew _ _)) (by omega), own_single (blk_new ((v1.alloc (.cells #[.slice (some ⟨gv, 0, none⟩) 4 cv, .slice (some ⟨gc, 0, none⟩) 8 cc] 31)).alloc (.cells #[] 2)) 3 #[.int .i64 0] (v1.heap.size + 2) n2.symm) (by omega), by omega, by omega, by omega, by omega⟩
  have HM0 := Lib.hid hM0
  have hbW : Below W.heap.size W (((v1.alloc (.cells #[.slice (some ⟨gv, 0, none⟩) 4 cv, .slice (some ⟨gc, 0, none⟩) 8 cc] 31)).alloc (.cells #[] 2)).alloc (.cells #[.int .i64 0] 3)) := bon hb1 hbA
  clear hM0 ow1 ow1' HOW n1 n2 hbA
  go_wp2_with fail
  generalize (((v1.alloc (.cells #[.slice (some ⟨gv, 0, none⟩) 4 cv, .slice (some ⟨gc, 0, none⟩) 8 cc] 31)).alloc (.cells #[] 2)).alloc (.cells #[.int .i64 0] 3)) = W3 at HM0 hbW hszA ⊢
  have hbW' : Below (w.heap.size + 1) W W3 := by rw [← hsz]; exact hbW
  obtain ⟨sb, hsb⟩ : ∃ sb, v1.heap.size = sb := ⟨_, rfl⟩
  rw [hsb] at HM0 ⊢
  have hsbl : w.heap.size + 1 ≤ sb := by omega
  go_loopw [11, 12, 13, 14, 15, 16, 17, 87, 96, 114] (fun ev st wk _ _ _ _ _ _ _ wr => ∃ (ts : List Tr) (s : RS) (ws : List Nat) (ge ce gw cw : Nat), ev = .slice (some ⟨ge, 0, none⟩) s.e.length ce ∧ st = .int .i64 (s.n : Int) ∧ wk = .slice (some ⟨gw, 0, none⟩) ws.length cw ∧ Hid (AtTs xs ws ts) ∧ Hid (MdM wr (w.heap.size + 1) sb gv cv gc cc ge ce gw cw s ws) ∧ Hid (GoodR F s) ∧ Hid (Go F ts s o' s') ∧ Hid (farT F 30 ts s ≤ 200000) ∧ Below (w.heap.size + 1) W wr) (fun _ st wk _ _ _ _ _ _ _ wr => measM xs F st wk wr)
  case atStart => exact ⟨[t], ⟨vs, zs, [], 0⟩, [0], sb + 1, 0, sb + 2, 1, rfl, rfl, rfl, HAT, HM0, HG, HGO, HFAR, hbW'⟩
  case round =>
    clear HM0 HAT HG HGO HFAR hbW hbW' hszA
    obtain ⟨ts, s, ws, ge, ce, gw, cw, rfl, rfl, rfl, hAt, hM, hG, hGo, hfar, hbel⟩ := hrel
    have hRw : BlkIs wr w.heap.size 31 #[.slice none 0 0, .slice none 0 0] := (hbel.block w.heap.size (by omega)).trans hR
    have hbw : Below w.heap.size w wr := hb0.trans (hbel.mono (by omega))
    have pw : wr.cell? ⟨pb, 1, none⟩ = some (.slice D m d) := (hbel.cell (p := ⟨pb, 1, none⟩) (show pb < w.heap.size + 1 by omega)).trans hp0
    have HDW := Lib.hid (HD0.out.next hbel (by omega))
    have hsn := hG.out.n
    have hse := hG.out.e
    have hAt' := hAt.out
    cases hAt' with
    | nil =>
      have k0 : wr.cell? ⟨sb, 0, none⟩ = some (.slice (some ⟨gv, 0, none⟩) 4 cv) := hM.out.blk.cell 0
      have k1 : wr.cell? ⟨sb, 1, none⟩ = some (.slice (some ⟨gc, 0, none⟩) 8 cc) := hM.out.blk.cell 1
      have z0 : wr.cell? ⟨w.heap.size, 0, none⟩ = some (.slice none 0 0) := hRw.cell 0
      have z1 : wr.cell? ⟨w.heap.size, 1, none⟩ = some (.slice none 0 0) := hRw.cell 1
      have y0 := hRw.frozen 0
      have y1 := hRw.frozen 1
      have HL := hM.out.leave hRw hbw
      obtain ⟨c0, c1, g1, g2, g3, hb5⟩ := HL
      have G1 := Lib.hid g1
      have G2 := Lib.hid g2
      have G3 := Lib.hid g3
      clear g1 g2 g3
      have HEND : Hid (o' = 0 ∧ s' = s) := Go.det hGo.out (Go.done s)
      clear hM hRw
      go_wp2_with fail
      generalize ((wr.setCell ⟨w.heap.size, 0, none⟩ (.slice (some ⟨gv, 0, none⟩) 4 cv)).setCell ⟨w.heap.size, 1, none⟩ (.slice (some ⟨gc, 0, none⟩) 8 cc)) = W5 at c0 c1 hb5 G1 G2 G3 ⊢
      refine bodyPost_ret (v := .tuple #[.agg #[.slice (some ⟨gv, 0, none⟩) 4 cv, .slice (some ⟨gc, 0, none⟩) 8 cc], .slice (some ⟨ge, 0, none⟩) (s).e.length ce, .int .i64 0, .int .i64 (((s).n : Int))]) (by simp [results, Tryz.results37, go_sem, c0, c1]) rfl ?_
      obtain ⟨eo, es⟩ := HEND.out
      rw [eo, es]
      exact ⟨_, cv, _, cc, _, ce, rfl, G1.out, G2.out, G3.out, hb5⟩
    | @cons k t ws ts hA hAs =>
      have htop := hA.top
      have hkm : k < m := by have := HLX.out; omega
      obtain ⟨b, off, x0, rfl, hbB, hx0, hst⟩ := HDW.out.at_ hkm
      have ex : t.top = x0 := Option.some.inj (htop.1.symm.trans hx0)
      subst ex
      have hokx := HOK.out _ (List.mem_of_getElem? hx0)
      have hkk := (stmt_ok hokx).1
      have htl := hM.out.top
      have hcap := own_capE hM.out.k
      have hwl : ws.length ≤ 200000 := by
        have h1 := hAs.len
        have h2 := len_szT ts
        have h3 := hfar.out
        unfold farT at h3
        rw [szT_cons] at h3
        omega
      have s0 : wr.cell? ⟨b, off + k * 8, none⟩ = some (.int .i64 t.top.k) := by obtain ⟨_, _, _, _, _, _, _, _, _, k0, _⟩ := hst; exact k0
      have s2 : wr.cell? ⟨b, off + k * 8 + 2, none⟩ = some (.int .i64 t.top.e) := by obtain ⟨_, _, _, _, _, _, _, _, _, _, _, k0, _⟩ := hst; exact k0
      have HST := Lib.hid hst
      have HP := Lib.hid hM.out.pop
      have HAS := Lib.hid hAs
      have HA := Lib.hid hA
      have HMS := Lib.hid (hM.out.meas (F := F) hAt.out)
      simp only [List.length_cons] at hcap HMS ⊢
      have ndx : ((k : Int) < (m : Int)) := by omega
      clear hst hx0 htop hAs hA
      by_cases hseq : t.top.k = 1
      · cases t with
        | leaf x => exact absurd HA.out.choose_spec.2 (by show ¬ below x.k = 0; rw [show x.k = 1 from hseq]; decide)
        | one x a => exact absurd HA.out.choose_spec.2.1 (by show ¬ below x.k = 1; rw [show x.k = 1 from hseq]; decide)
        | two x a b2 =>
          have hx1 : x.k = 1 := hseq
          rw [show (Tr.two x a b2).top.k = 1 from hx1] at s0
          obtain ⟨HB2, hend⟩ := HA.out.snd
          have HA1 := Lib.hid HA.out.fst
          obtain ⟨n2, hn2⟩ : ∃ n, k + 1 + (flatT a).length = n := ⟨_, rfl⟩
          rw [hn2] at HB2 hend
          have HE := Lib.hid (l03End_c (some ⟨b, off, none⟩) m d B xs (k + 1) wr HDW.out (by omega) (by omega))
          rw [hend] at HE
          have hk1 : ((k + 1 : Nat) : Int) = (k : Int) + 1 := by omega
          rw [hk1] at HE
          have HPo := HP.out
          go_wp2_with fail
          refine HE.out.mono ?_
          rintro e w1 ⟨rfl, rfl⟩
          go_wp2_with (first | (at_builtin; refine wpList_append_sep rfl _ _ 115 rfl (w.heap.size + 1) 3 i0 (.int .i64 0) 1 8 Tryz.underlying115 hif hz0 hz1 hz2 rfl (by decide) _ (ws).length ((ws).reverse.map nc) rfl (HPo.next (bnew wr (.cells #[.int .i64 (n2 : Int)] 3))).k ⟨wr.heap.size, 0, none⟩ 1 1 [.int .i64 (n2 : Int)] rfl rfl (one_at wr (.int .i64 (n2 : Int)) 3 _ rfl) (fun u hu => by simp at hu; subst hu; rfl) (by unfold maxLen; (try simp only [List.length_cons]); omega) (by (try simp only [List.length_cons]); omega) (HPo.next (bnew wr (.cells #[.int .i64 (n2 : Int)] 3))).bz (by decide) ?_; intro gg1 cg1 wg1 hown1 hgrow1 hsep1; have P1 := (HPo.next (bnew wr (.cells #[.int .i64 (n2 : Int)] 3))).push (k := n2) hown1 hgrow1 hsep1; have B1 : Below (w.heap.size + 1) wr wg1 := ((bnew wr (.cells #[.int .i64 (n2 : Int)] 3)).mono HPo.bz).trans (only_below hgrow1 (HPo.next (bnew wr (.cells #[.int .i64 (n2 : Int)] 3))).kb (HPo.next (bnew wr (.cells #[.int .i64 (n2 : Int)] 3))).bz); clear hown1 hgrow1 hsep1) | (at_builtin; refine wpList_append_sep rfl _ _ 115 rfl (w.heap.size + 1) 3 i0 (.int .i64 0) 1 8 Tryz.underlying115 hif hz0 hz1 hz2 rfl (by decide) _ (n2 :: ws).length ((n2 :: ws).reverse.map nc) rfl (P1.next (bnew wg1 (.cells #[.int .i64 ((k : Int) + 1)] 3))).k ⟨wg1.heap.size, 0, none⟩ 1 1 [.int .i64 ((k : Int) + 1)] rfl rfl (one_at wg1 (.int .i64 ((k : Int) + 1)) 3 _ rfl) (fun u hu => by simp at hu; subst hu; rfl) (by unfold maxLen; (try simp only [List.length_cons]); omega) (by (try simp only [List.length_cons]); omega) (P1.next (bnew wg1 (.cells #[.int .i64 ((k : Int) + 1)] 3))).bz (by decide) ?_; intro gg2 cg2 wg2 hown2 hgrow2 hsep2; have P2 := (P1.next (bnew wg1 (.cells #[.int .i64 ((k : Int) + 1)] 3))).push (k := k + 1) hown2 hgrow2 hsep2; have B2 : Below (w.heap.size + 1) wg1 wg2 := ((bnew wg1 (.cells #[.int .i64 ((k : Int) + 1)] 3)).mono P1.bz).trans (only_below hgrow2 (P1.next (bnew wg1 (.cells #[.int .i64 ((k : Int) + 1)] 3))).kb (P1.next (bnew wg1 (.cells #[.int .i64 ((k : Int) + 1)] 3))).bz); clear hown2 hgrow2 hsep2) | fail)
          have hat9 : AtTs xs ((k + 1) :: n2 :: ws) (a :: b2 :: ts) := .cons HA1.out (.cons HB2 HAS.out)
          have HM9 := P2.meas (F := F) hat9
          have hfar9 : farT F 30 (a :: b2 :: ts) s ≤ 200000 := by
            have h3 := hfar.out
            unfold farT at h3 ⊢
            simp only [szT_cons, flatT, List.length_cons, List.length_append] at h3 ⊢
            omega
          have HP9 := Lib.hid P2
          have HAT9 := Lib.hid hat9
          have HF9 := Lib.hid hfar9
          have hgo9 := Lib.hid (hGo.out.seq_inv hx1)
          have hb9 := hbel.trans (B1.trans B2)
          clear P1 P2 B1 B2 hat9 hfar9 HPo
          go_roundw
          case rel => exact ⟨a :: b2 :: ts, s, (k + 1) :: n2 :: ws, ge, ce, gg2, cg2, rfl, rfl, rfl, HAT9, HP9, hG, hgo9, HF9, hb9⟩
          case measure => simp only [List.length_cons] at HM9 ⊢; rw [HM9, HMS.out]; unfold farT; simp only [szT_cons, flatT, List.length_cons, List.length_append]; omega

      · by_cases hn : s.n = F
        · have eqT : ((s.n : Int) == (F : Int)) = true := by simp; omega
          have es1 : (t.top.k == 1) = false := by simp; omega
          have k0 : wr.cell? ⟨sb, 0, none⟩ = some (.slice (some ⟨gv, 0, none⟩) 4 cv) := HP.out.blk.cell 0
          have k1 : wr.cell? ⟨sb, 1, none⟩ = some (.slice (some ⟨gc, 0, none⟩) 8 cc) := HP.out.blk.cell 1
          have z0 : wr.cell? ⟨w.heap.size, 0, none⟩ = some (.slice none 0 0) := hRw.cell 0
          have z1 : wr.cell? ⟨w.heap.size, 1, none⟩ = some (.slice none 0 0) := hRw.cell 1
          have y0 := hRw.frozen 0
          have y1 := hRw.frozen 1
          have HL := HP.out.leave hRw hbw
          obtain ⟨c0, c1, g1, g2, g3, hb5⟩ := HL
          have G1 := Lib.hid g1
          have G2 := Lib.hid g2
          have G3 := Lib.hid g3
          clear g1 g2 g3
          have HEND : Hid (o' = 1 ∧ s' = s) := hGo.out.fuel_inv hseq hn
          go_wp2_with fail
          generalize ((wr.setCell ⟨w.heap.size, 0, none⟩ (.slice (some ⟨gv, 0, none⟩) 4 cv)).setCell ⟨w.heap.size, 1, none⟩ (.slice (some ⟨gc, 0, none⟩) 8 cc)) = W5 at c0 c1 hb5 G1 G2 G3 ⊢
          refine bodyPost_ret (v := .tuple #[.agg #[.slice (some ⟨gv, 0, none⟩) 4 cv, .slice (some ⟨gc, 0, none⟩) 8 cc], .slice (some ⟨ge, 0, none⟩) (s).e.length ce, .int .i64 1, .int .i64 (((s).n : Int))]) (by simp [results, Tryz.results37, go_sem, c0, c1]) rfl ?_
          obtain ⟨eo, es⟩ := HEND.out
          rw [eo, es]
          exact ⟨_, cv, _, cc, _, ce, rfl, G1.out, G2.out, G3.out, hb5⟩
        · have eqF : ((s.n : Int) == (F : Int)) = false := by simp; omega
          have es1 : (t.top.k == 1) = false := by simp; omega
          obtain ⟨oo, s1, hs⟩ : ∃ oo s1, stepS t.top s.more = (oo, s1) := ⟨_, _, rfl⟩
          have hs1n : s1.n = s.n + 1 := by have := stepS_n t.top s.more; rw [hs] at this; exact this
          have hs1e : s1.e.length = s.e.length := by have := stepS_e t.top s.more; rw [hs] at this; exact congrArg List.length this
          have HGs := Lib.hid (hG.out.step hn hs)
          have C := l03Step_c (w := wr) hokx HST.out hbB (show B ≤ w.heap.size + 1 by omega) HP.out.step hG.out.g.more
          unfold StepQ at C
          rw [hs] at C
          have HC := Lib.hid C
          have HSS := Lib.hid hs
          have hsi : ((s1.n : Nat) : Int) = (s.n : Int) + 1 := by omega
          clear C hs
          go_wp2_with fail
          refine HC.out.mono ?_
          rintro e w1 ⟨rfl, hM1, hb1⟩
          have hbel1 := hbel.trans hb1
          have hRw1 : BlkIs w1 w.heap.size 31 #[.slice none 0 0, .slice none 0 0] := (hbel1.block w.heap.size (by omega)).trans hR
          have hbw1 : Below w.heap.size w w1 := hb0.trans (hbel1.mono (by omega))
          by_cases ho : oo = 0
          · subst ho
            have pw1 : w1.cell? ⟨pb, 1, none⟩ = some (.slice (some ⟨b, off, none⟩) m d) := (hb1.cell (p := ⟨pb, 1, none⟩) (show pb < w.heap.size + 1 by omega)).trans pw
            have s01 : w1.cell? ⟨b, off + k * 8, none⟩ = some (.int .i64 t.top.k) := (hb1.cell (p := ⟨b, off + k * 8, none⟩) (show b < w.heap.size + 1 by omega)).trans s0
            have s21 : w1.cell? ⟨b, off + k * 8 + 2, none⟩ = some (.int .i64 t.top.e) := (hb1.cell (p := ⟨b, off + k * 8 + 2, none⟩) (show b < w.heap.size + 1 by omega)).trans s2
            have HDW1 := Lib.hid (HDW.out.next hb1 (show B ≤ w.heap.size + 1 by omega))
            obtain ⟨nn, HNN⟩ : ∃ n, Hid (numS s1.v t.top.s = n) := ⟨_, rfl⟩
            have CE : Calls Tryz.prog 72 #[.pointer (some ⟨b, off + k * 8 + 3, none⟩), .pointer (some ⟨sb, 0, none⟩)] w1 fun e w' => e = .returned (.int .i64 nn) ∧ ∃ d, w' = w1.drewN d := by
              obtain ⟨As, ns, cs, Ai, ni, ci, Af, nf, cf, k0, k1, k2, k3, k4, k5, k6, k7, kS, kI, kF⟩ := HST.out.next hb1 (show B ≤ w.heap.size + 1 by omega) (by omega)
              have hl1 := hM1.lt
              have := l03Eval_c w1.heap.size b (off + k * 8 + 3) t.top.s sb 0 (some ⟨gv, 0, none⟩) 4 cv s1.v w1 ⟨As, ns, cs, by omega, k3, k4, kS.more (by omega)⟩ (hM1.blk.cell 0) hM1.v.all (stmt_ok hokx).2.1.1 (stmt_ok hokx).2.1.2 HGs.out.g.big
              rw [show evTo t.top.s s1.v t.top.s.2.length = nn from HNN.out] at this
              exact this
            have HCE := Lib.hid CE
            have HM1 := Lib.hid hM1
            clear CE hM1 pw s0 s2 HDW
            go_wp2_with fail
            refine HCE.out.mono ?_
            rintro e w2 ⟨rfl, dd, rfl⟩
            have HM2 := Lib.hid (HM1.out.drewN dd)
            have hbel2 : Below (w.heap.size + 1) W (w1.drewN dd) := hbel1.trans (below_drewN dd)
            have hstp := hGo.out.step_inv hseq hn HSS.out
            have hMx := HM2.out
            have hfs := farT_step (fuel := F) (M := 30) (t := t) (r := ts) (s := s) (s1 := s1) (by omega) (by have h4 := HA.out; obtain ⟨r, h5, _⟩ := h4; have h6 := congrArg List.length h5; rw [List.length_append, List.length_drop] at h6; have := HLX.out; omega) hs1n
            have hfar1 := hfar.out
            clear HCE HC hRw hRw1 hbw hbw1 hbel hbel1 HM1 hb1
            cases t with
            | leaf x =>
              have e8 : (x.k == 8) = false := by
                have h8 : below x.k = 0 := HA.out.choose_spec.2
                have : x.k ≠ 8 := fun e => by rw [e] at h8; exact absurd h8 (by decide)
                simp [this]
              have e7 : (x.k == 7) = false := by
                have h8 : below x.k = 0 := HA.out.choose_spec.2
                have : x.k ≠ 7 := fun e => by rw [e] at h8; exact absurd h8 (by decide)
                simp [this]
              have sx : (Tr.leaf x).top = x := rfl
              rw [sx] at s01 s21
              by_cases h5 : x.k = 5
              · rw [h5] at s01
                have hnx : nextS (.leaf x) s1 = ([], { s1 with e := s1.e ++ [x.e] }) := by simp only [nextS]; rw [if_pos h5]
                rw [hnx] at hstp hfs
                have hG9 : GoodR F { s1 with e := s1.e ++ [x.e] } := by have := nextR_good (t := .leaf x) HGs.out (by have := hG.out.e; omega); rw [hnx] at this; exact this
                have hMa := HM2.out.next (bnew (w1.drewN dd) (.cells #[.int .i64 x.e] 2))
                have hrow : ((w1.drewN dd).alloc (.cells #[.int .i64 x.e] 2)).ownsRow (w.heap.size + 1) 2 1 (.slice (some ⟨ge, 0, none⟩) s.e.length ce) s.e.length (s1.e.map ic) := by rw [← hs1e]; exact hMa.e
                go_wp2_with (at_builtin; refine wpList_append_sep rfl _ _ 26 rfl (w.heap.size + 1) 2 j0 (.int .i64 0) 1 8 Tryz.underlying26 jif jz0 jz1 jz2 rfl (by decide) _ s.e.length (s1.e.map ic) rfl hrow ⟨(w1.drewN dd).heap.size, 0, none⟩ 1 1 [.int .i64 x.e] rfl rfl (one_at (w1.drewN dd) (.int .i64 x.e) 2 _ rfl) (fun u hu => by simp at hu; subst hu; rfl) (by unfold maxLen; omega) (by omega) hMa.bz (by decide) ?_; intro gg1 cg1 wg1 hown1 hgrow1 hsep1; have R1 := hown1; have G1 := hgrow1; have S1 := hsep1; clear hown1 hgrow1 hsep1)
                have R1' : wg1.ownsRow (w.heap.size + 1) 2 1 (.slice (some ⟨gg1, 0, none⟩) (s1.e.length + 1) cg1) (s1.e.length + 1) (s1.e.map ic ++ [.int .i64 x.e]) := by rw [hs1e]; exact R1
                have P1 := hMa.emit (x := x.e) R1' G1 S1
                have B1 : Below (w.heap.size + 1) (w1.drewN dd) wg1 := ((bnew (w1.drewN dd) (.cells #[.int .i64 x.e] 2)).mono HM2.out.bz).trans (only_below G1 hMa.eb hMa.bz)
                have HG9 := Lib.hid hG9
                clear R1 R1' G1 S1 hMa hrow hMx hG9
                have hat9 : AtTs xs (ws) (ts) := HAS.out
                have HM9 : measM xs F (.int .i64 (s1.n : Int)) (.slice (some ⟨gw, 0, none⟩) (ws).length cw) _ = farT F 30 (ts) ({ s1 with e := s1.e ++ [x.e] }) := P1.meas (F := F) hat9
                set_option linter.unusedSimpArgs false in simp only [List.cons_append, List.nil_append] at hstp hfs
                have hfar9 : farT F 30 (ts) ({ s1 with e := s1.e ++ [x.e] }) ≤ 200000 := by omega
                have HP9 := Lib.hid P1
                have HAT9 := Lib.hid hat9
                have HF9 := Lib.hid hfar9
                have HFS := Lib.hid hfs
                have HSTP := Lib.hid hstp
                have hb9 := hbel2.trans B1
                clear hat9 hfar9 hstp hfs
                go_roundw
                case rel => exact ⟨ts, { s1 with e := s1.e ++ [x.e] }, ws, gg1, cg1, gw, cw, (by show _ = Value.slice _ (s1.e ++ [x.e]).length _; rw [List.length_append, hs1e]; rfl), by rw [hsi], rfl, HAT9, HP9, HG9, HSTP, HF9, hb9⟩
                case measure => (try simp only [List.length_cons] at HM9 ⊢); rw [← hsi]; rw [HM9, HMS.out]; exact HFS.out
              · have e5 : (x.k == 5) = false := by simp [h5]
                have hnx : nextS (.leaf x) s1 = ([], s1) := by simp only [nextS]; rw [if_neg h5]
                rw [hnx] at hstp hfs
                go_wp2_with fail
                have HM9 := hMx.meas (F := F) HAS.out
                have HSTP := Lib.hid hstp
                have HFS := Lib.hid hfs
                have HFAR9 := Lib.hid (show farT F 30 ts s1 ≤ 200000 from by have := hfs; simp only [List.nil_append] at this; omega)
                clear hMx hstp hfs
                go_roundw
                case rel => exact ⟨ts, s1, ws, ge, ce, gw, cw, by rw [hs1e], by rw [hsi], rfl, HAS, HM2, HGs, HSTP, HFAR9, hbel2⟩
                case measure => rw [← hsi]; rw [HM9, HMS.out]; exact HFS.out
            | one x a =>
              have h8 : x.k = 8 := by
                have hb : below x.k = 1 := HA.out.choose_spec.2.1
                unfold below at hb
                split at hb
                · omega
                · split at hb <;> omega
              rw [show (Tr.one x a).top.k = 8 from h8] at s01
              have HA1 := Lib.hid HA.out.one
              by_cases hy : 0 ≤ nn
              · have ey : decide (0 ≤ nn) = true := decide_eq_true hy
                have hnx : nextS (.one x a) s1 = ([a, .one x a], s1) := by simp only [nextS]; rw [if_pos (by have := HNN.out; rw [show (Tr.one x a).top.s = x.s from rfl] at this; rw [this]; exact hy)]
                rw [hnx] at hstp hfs
                go_wp2_with (first | (at_builtin; refine wpList_append_sep rfl _ _ 115 rfl (w.heap.size + 1) 3 i0 (.int .i64 0) 1 8 Tryz.underlying115 hif hz0 hz1 hz2 rfl (by decide) _ (ws).length ((ws).reverse.map nc) rfl (hMx.next (bnew (w1.drewN dd) (.cells #[.int .i64 (k : Int)] 3))).k ⟨(w1.drewN dd).heap.size, 0, none⟩ 1 1 [.int .i64 (k : Int)] rfl rfl (one_at (w1.drewN dd) (.int .i64 (k : Int)) 3 _ rfl) (fun u hu => by simp at hu; subst hu; rfl) (by unfold maxLen; (try simp only [List.length_cons]); omega) (by (try simp only [List.length_cons]); omega) (hMx.next (bnew (w1.drewN dd) (.cells #[.int .i64 (k : Int)] 3))).bz (by decide) ?_; intro gg1 cg1 wg1 hown1 hgrow1 hsep1; have P1 := (hMx.next (bnew (w1.drewN dd) (.cells #[.int .i64 (k : Int)] 3))).push (k := k) hown1 hgrow1 hsep1; have B1 : Below (w.heap.size + 1) (w1.drewN dd) wg1 := ((bnew (w1.drewN dd) (.cells #[.int .i64 (k : Int)] 3)).mono hMx.bz).trans (only_below hgrow1 (hMx.next (bnew (w1.drewN dd) (.cells #[.int .i64 (k : Int)] 3))).kb (hMx.next (bnew (w1.drewN dd) (.cells #[.int .i64 (k : Int)] 3))).bz); clear hown1 hgrow1 hsep1) | (at_builtin; refine wpList_append_sep rfl _ _ 115 rfl (w.heap.size + 1) 3 i0 (.int .i64 0) 1 8 Tryz.underlying115 hif hz0 hz1 hz2 rfl (by decide) _ (k :: ws).length ((k :: ws).reverse.map nc) rfl (P1.next (bnew wg1 (.cells #[.int .i64 ((k : Int) + 1)] 3))).k ⟨wg1.heap.size, 0, none⟩ 1 1 [.int .i64 ((k : Int) + 1)] rfl rfl (one_at wg1 (.int .i64 ((k : Int) + 1)) 3 _ rfl) (fun u hu => by simp at hu; subst hu; rfl) (by unfold maxLen; (try simp only [List.length_cons]); omega) (by (try simp only [List.length_cons]); omega) (P1.next (bnew wg1 (.cells #[.int .i64 ((k : Int) + 1)] 3))).bz (by decide) ?_; intro gg2 cg2 wg2 hown2 hgrow2 hsep2; have P2 := (P1.next (bnew wg1 (.cells #[.int .i64 ((k : Int) + 1)] 3))).push (k := k + 1) hown2 hgrow2 hsep2; have B2 : Below (w.heap.size + 1) wg1 wg2 := ((bnew wg1 (.cells #[.int .i64 ((k : Int) + 1)] 3)).mono P1.bz).trans (only_below hgrow2 (P1.next (bnew wg1 (.cells #[.int .i64 ((k : Int) + 1)] 3))).kb (P1.next (bnew wg1 (.cells #[.int .i64 ((k : Int) + 1)] 3))).bz); clear hown2 hgrow2 hsep2) | fail)
                clear hMx
                have hat9 : AtTs xs ((k + 1) :: k :: ws) (a :: Tr.one x a :: ts) := .cons HA1.out (.cons HA.out HAS.out)
                have HM9 : measM xs F (.int .i64 (s1.n : Int)) (.slice (some ⟨gg2, 0, none⟩) ((k + 1) :: k :: ws).length cg2) _ = farT F 30 (a :: Tr.one x a :: ts) (s1) := P2.meas (F := F) hat9
                set_option linter.unusedSimpArgs false in simp only [List.cons_append, List.nil_append] at hstp hfs
                have hfar9 : farT F 30 (a :: Tr.one x a :: ts) (s1) ≤ 200000 := by omega
                have HP9 := Lib.hid P2
                have HAT9 := Lib.hid hat9
                have HF9 := Lib.hid hfar9
                have HFS := Lib.hid hfs
                have HSTP := Lib.hid hstp
                have hb9 := hbel2.trans (B1.trans B2)
                clear hat9 hfar9 hstp hfs
                go_roundw
                case rel => exact ⟨a :: Tr.one x a :: ts, s1, (k + 1) :: k :: ws, ge, ce, gg2, cg2, by rw [hs1e], by rw [hsi], rfl, HAT9, HP9, HGs, HSTP, HF9, hb9⟩
                case measure => (try simp only [List.length_cons] at HM9 ⊢); rw [← hsi]; rw [HM9, HMS.out]; exact HFS.out
              · have ey : decide (0 ≤ nn) = false := decide_eq_false hy
                have hnx : nextS (.one x a) s1 = ([], s1) := by simp only [nextS]; rw [if_neg (by have := HNN.out; rw [show (Tr.one x a).top.s = x.s from rfl] at this; rw [this]; exact hy)]
                rw [hnx] at hstp hfs
                go_wp2_with fail
                have hat9 : AtTs xs (ws) (ts) := HAS.out
                have HM9 : measM xs F (.int .i64 (s1.n : Int)) (.slice (some ⟨gw, 0, none⟩) (ws).length cw) _ = farT F 30 (ts) (s1) := hMx.meas (F := F) hat9
                set_option linter.unusedSimpArgs false in simp only [List.cons_append, List.nil_append] at hstp hfs
                have hfar9 : farT F 30 (ts) (s1) ≤ 200000 := by omega
                have HP9 := Lib.hid hMx
                have HAT9 := Lib.hid hat9
                have HF9 := Lib.hid hfar9
                have HFS := Lib.hid hfs
                have HSTP := Lib.hid hstp
                have hb9 := hbel2
                clear hat9 hfar9 hstp hfs
                go_roundw
                case rel => exact ⟨ts, s1, ws, ge, ce, gw, cw, by rw [hs1e], by rw [hsi], rfl, HAT9, HP9, HGs, HSTP, HF9, hb9⟩
                case measure => (try simp only [List.length_cons] at HM9 ⊢); rw [← hsi]; rw [HM9, HMS.out]; exact HFS.out
            | two x a b2 =>
              have h7 : x.k = 7 := by
                have hb : below x.k = 2 := HA.out.choose_spec.2.1
                have h1 : x.k ≠ 1 := hseq
                unfold below at hb
                split at hb
                · omega
                · split at hb <;> omega
              rw [show (Tr.two x a b2).top.k = 7 from h7] at s01
              have HA1 := Lib.hid HA.out.fst
              obtain ⟨HB2, hend⟩ := HA.out.snd
              obtain ⟨n2, hn2⟩ : ∃ n, k + 1 + (flatT a).length = n := ⟨_, rfl⟩
              rw [hn2] at HB2 hend
              by_cases hy : 0 ≤ nn
              · have ey : decide (0 ≤ nn) = true := decide_eq_true hy
                have hnx : nextS (.two x a b2) s1 = ([a], s1) := by simp only [nextS]; rw [if_pos (by have := HNN.out; rw [show (Tr.two x a b2).top.s = x.s from rfl] at this; rw [this]; exact hy)]
                rw [hnx] at hstp hfs
                go_wp2_with (first | (at_builtin; refine wpList_append_sep rfl _ _ 115 rfl (w.heap.size + 1) 3 i0 (.int .i64 0) 1 8 Tryz.underlying115 hif hz0 hz1 hz2 rfl (by decide) _ (ws).length ((ws).reverse.map nc) rfl (hMx.next (bnew (w1.drewN dd) (.cells #[.int .i64 ((k : Int) + 1)] 3))).k ⟨(w1.drewN dd).heap.size, 0, none⟩ 1 1 [.int .i64 ((k : Int) + 1)] rfl rfl (one_at (w1.drewN dd) (.int .i64 ((k : Int) + 1)) 3 _ rfl) (fun u hu => by simp at hu; subst hu; rfl) (by unfold maxLen; (try simp only [List.length_cons]); omega) (by (try simp only [List.length_cons]); omega) (hMx.next (bnew (w1.drewN dd) (.cells #[.int .i64 ((k : Int) + 1)] 3))).bz (by decide) ?_; intro gg1 cg1 wg1 hown1 hgrow1 hsep1; have P1 := (hMx.next (bnew (w1.drewN dd) (.cells #[.int .i64 ((k : Int) + 1)] 3))).push (k := k + 1) hown1 hgrow1 hsep1; have B1 : Below (w.heap.size + 1) (w1.drewN dd) wg1 := ((bnew (w1.drewN dd) (.cells #[.int .i64 ((k : Int) + 1)] 3)).mono hMx.bz).trans (only_below hgrow1 (hMx.next (bnew (w1.drewN dd) (.cells #[.int .i64 ((k : Int) + 1)] 3))).kb (hMx.next (bnew (w1.drewN dd) (.cells #[.int .i64 ((k : Int) + 1)] 3))).bz); clear hown1 hgrow1 hsep1) | fail)
                clear hMx
                have hat9 : AtTs xs ((k + 1) :: ws) (a :: ts) := .cons HA1.out HAS.out
                have HM9 : measM xs F (.int .i64 (s1.n : Int)) (.slice (some ⟨gg1, 0, none⟩) ((k + 1) :: ws).length cg1) _ = farT F 30 (a :: ts) (s1) := P1.meas (F := F) hat9
                set_option linter.unusedSimpArgs false in simp only [List.cons_append, List.nil_append] at hstp hfs
                have hfar9 : farT F 30 (a :: ts) (s1) ≤ 200000 := by omega
                have HP9 := Lib.hid P1
                have HAT9 := Lib.hid hat9
                have HF9 := Lib.hid hfar9
                have HFS := Lib.hid hfs
                have HSTP := Lib.hid hstp
                have hb9 := hbel2.trans B1
                clear hat9 hfar9 hstp hfs
                go_roundw
                case rel => exact ⟨a :: ts, s1, (k + 1) :: ws, ge, ce, gg1, cg1, by rw [hs1e], by rw [hsi], rfl, HAT9, HP9, HGs, HSTP, HF9, hb9⟩
                case measure => (try simp only [List.length_cons] at HM9 ⊢); rw [← hsi]; rw [HM9, HMS.out]; exact HFS.out
              · have ey : decide (0 ≤ nn) = false := decide_eq_false hy
                have hnx : nextS (.two x a b2) s1 = ([b2], s1) := by simp only [nextS]; rw [if_neg (by have := HNN.out; rw [show (Tr.two x a b2).top.s = x.s from rfl] at this; rw [this]; exact hy)]
                rw [hnx] at hstp hfs
                have HE := Lib.hid (l03End_c (some ⟨b, off, none⟩) m d B xs (k + 1) (w1.drewN dd) (HDW1.out.next (below_drewN (B := B) dd) (Nat.le_refl _)) (by omega) (by omega))
                rw [hend] at HE
                have hk1 : ((k + 1 : Nat) : Int) = (k : Int) + 1 := by omega
                rw [hk1] at HE
                go_wp2_with fail
                refine HE.out.mono ?_
                rintro e w3 ⟨rfl, rfl⟩
                go_wp2_with (first | (at_builtin; refine wpList_append_sep rfl _ _ 115 rfl (w.heap.size + 1) 3 i0 (.int .i64 0) 1 8 Tryz.underlying115 hif hz0 hz1 hz2 rfl (by decide) _ (ws).length ((ws).reverse.map nc) rfl (hMx.next (bnew (w1.drewN dd) (.cells #[.int .i64 (n2 : Int)] 3))).k ⟨(w1.drewN dd).heap.size, 0, none⟩ 1 1 [.int .i64 (n2 : Int)] rfl rfl (one_at (w1.drewN dd) (.int .i64 (n2 : Int)) 3 _ rfl) (fun u hu => by simp at hu; subst hu; rfl) (by unfold maxLen; (try simp only [List.length_cons]); omega) (by (try simp only [List.length_cons]); omega) (hMx.next (bnew (w1.drewN dd) (.cells #[.int .i64 (n2 : Int)] 3))).bz (by decide) ?_; intro gg1 cg1 wg1 hown1 hgrow1 hsep1; have P1 := (hMx.next (bnew (w1.drewN dd) (.cells #[.int .i64 (n2 : Int)] 3))).push (k := n2) hown1 hgrow1 hsep1; have B1 : Below (w.heap.size + 1) (w1.drewN dd) wg1 := ((bnew (w1.drewN dd) (.cells #[.int .i64 (n2 : Int)] 3)).mono hMx.bz).trans (only_below hgrow1 (hMx.next (bnew (w1.drewN dd) (.cells #[.int .i64 (n2 : Int)] 3))).kb (hMx.next (bnew (w1.drewN dd) (.cells #[.int .i64 (n2 : Int)] 3))).bz); clear hown1 hgrow1 hsep1) | fail)
                clear hMx
                have hat9 : AtTs xs (n2 :: ws) (b2 :: ts) := .cons HB2 HAS.out
                have HM9 : measM xs F (.int .i64 (s1.n : Int)) (.slice (some ⟨gg1, 0, none⟩) (n2 :: ws).length cg1) _ = farT F 30 (b2 :: ts) (s1) := P1.meas (F := F) hat9
                set_option linter.unusedSimpArgs false in simp only [List.cons_append, List.nil_append] at hstp hfs
                have hfar9 : farT F 30 (b2 :: ts) (s1) ≤ 200000 := by omega
                have HP9 := Lib.hid P1
                have HAT9 := Lib.hid hat9
                have HF9 := Lib.hid hfar9
                have HFS := Lib.hid hfs
                have HSTP := Lib.hid hstp
                have hb9 := hbel2.trans B1
                clear hat9 hfar9 hstp hfs
                go_roundw
                case rel => exact ⟨b2 :: ts, s1, n2 :: ws, ge, ce, gg1, cg1, by rw [hs1e], by rw [hsi], rfl, HAT9, HP9, HGs, HSTP, HF9, hb9⟩
                case measure => (try simp only [List.length_cons] at HM9 ⊢); rw [← hsi]; rw [HM9, HMS.out]; exact HFS.out
          · have hoo : (oo != 0) = true := by simp [ho]
            have k0 : w1.cell? ⟨sb, 0, none⟩ = some (.slice (some ⟨gv, 0, none⟩) 4 cv) := hM1.blk.cell 0
            have k1 : w1.cell? ⟨sb, 1, none⟩ = some (.slice (some ⟨gc, 0, none⟩) 8 cc) := hM1.blk.cell 1
            have z0 : w1.cell? ⟨w.heap.size, 0, none⟩ = some (.slice none 0 0) := hRw1.cell 0
            have z1 : w1.cell? ⟨w.heap.size, 1, none⟩ = some (.slice none 0 0) := hRw1.cell 1
            have y0 := hRw1.frozen 0
            have y1 := hRw1.frozen 1
            have HL := hM1.leave hRw1 hbw1
            obtain ⟨c0, c1, g1, g2, g3, hb5⟩ := HL
            have G1 := Lib.hid g1
            have G2 := Lib.hid g2
            have G3 := Lib.hid g3
            clear g1 g2 g3
            have HEND : Hid (o' = oo ∧ s' = s1) := hGo.out.stop_inv hseq hn HSS.out ho
            go_wp2_with fail
            generalize ((w1.setCell ⟨w.heap.size, 0, none⟩ (.slice (some ⟨gv, 0, none⟩) 4 cv)).setCell ⟨w.heap.size, 1, none⟩ (.slice (some ⟨gc, 0, none⟩) 8 cc)) = W5 at c0 c1 hb5 G1 G2 G3 ⊢
            refine bodyPost_ret (v := .tuple #[.agg #[.slice (some ⟨gv, 0, none⟩) 4 cv, .slice (some ⟨gc, 0, none⟩) 8 cc], .slice (some ⟨ge, 0, none⟩) s.e.length ce, .int .i64 oo, .int .i64 ((s.n : Int) + 1)]) (by simp [results, Tryz.results37, go_sem, c0, c1]) rfl ?_
            obtain ⟨eo, es⟩ := HEND.out
            rw [eo, es]
            exact ⟨_, cv, _, cc, _, ce, (by rw [hs1e, hsi]), G1.out, G2.out, G3.out, hb5⟩

end Go.Proofs.YtajmbnimdngjhaaGreatDoor
