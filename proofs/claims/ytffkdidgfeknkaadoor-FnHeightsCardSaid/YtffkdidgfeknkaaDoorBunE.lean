/-
  Several texts in one: CodeA, Bound, Work, Src, DrwC, DrwK, LL, Mono, LLM, RowsO, DrwS, DrwR. Conditions: as each says.
-/
import Derived.Test.YtffkdidgfeknkaaDoorInstrL
import Derived.Maps.AppendAt
import Derived.OwnWalk
import Derived.Lib.AppendZeros
import Derived.RangeFuncNested
import Derived.RangeFuncBound
import Derived.RangeFuncCalls
import Derived.RangeFuncLeaves
import Derived.Shelf.Abstract
import Derived.Shelf.RegionOpen
import Derived.OwnWalkIn
import Derived.TacticsInMore
import Derived.LoopNIn
import Derived.LoopIn
import Derived.Test.YtffkdidgfeknkaaDoorBase
import Derived.Test.YtffkdidgfeknkaaDoorBunD
import Derived.Test.YtffkdidgfeknkaaDoorBlk
import Derived.Maps.Own
import Derived.Maps.OwnOps
import Derived.Maps.OwnSet
import Derived.Carry
import Derived.WalkSpells
import Derived.Deep.DeepCutAuto
import Derived.Test.YtffkdidgfeknkaaDoorKeep
import Derived.BigQuiet
import Derived.Deep.QuietTactic
import Derived.WalkLawsBesides
import Derived.WalkSmall
import Derived.Laws.BitsAllLaws
import Derived.Test.YtffkdidgfeknkaaDoorBunC
import Derived.Test.YtffkdidgfeknkaaDoorInstrV
import Derived.Deep.AppendLies
import Derived.Test.YtffkdidgfeknkaaDoorTms
import Derived.Test.YtffkdidgfeknkaaDoorStK
import Derived.Test.YtffkdidgfeknkaaDoorInts
import Derived.Test.YtffkdidgfeknkaaDoorTermsC
import Derived.Test.YtffkdidgfeknkaaDoorTermK
import Derived.Test.YtffkdidgfeknkaaDoorBunB

/-! Instructions appended to a row of the call's own. Conditions: at most 2^20 instructions. -/
namespace Go.Proofs.YtffkdidgfeknkaaDoor
set_option linter.unusedVariables false
open Go.RowKit

theorem nil_any {P : Program} (w : World) (base : Nat) (t ty e : TypeId) (i : TypeInfo) (size : Nat) (ht : P.underlying t = some (.slice e)) (hi : P.info? e = some i)
    (v : Value) (n : Nat) (xs : List Value) (hown : w.ownsRow base e size v n xs) (c : Nat) : (Builtin.append_ #[t, t] ty #[v, .slice none 0 c]).run P w = .ok v w := by
  rcases hown.2 with ⟨rfl, rfl⟩ | ⟨g, cap, cur, rfl, _, _, hnc, _⟩
  · simp [Builtin.append_, run_underlying ht, sizeOf, typeInfo, hi, Builtin.lenOf, Builtin.firstCells]
  · simp [Builtin.append_, run_underlying ht, sizeOf, typeInfo, hi, Builtin.lenOf, Builtin.firstCells, hnc, storeCells]
theorem flatC_one (l : List (Int × Int)) : ∀ u ∈ flatC l, u.oneCell' = true := by
  intro u hu
  obtain ⟨p, _, hp⟩ := List.mem_flatMap.1 hu
  simp at hp
  rcases hp with rfl | rfl <;> rfl
theorem flatC_news {w : World} {B n : Nat} {ad : Addr} {xs : List (Int × Int)} (h : InC w B (some ad) n xs) : ∀ j u, (flatC xs)[j]? = some u → w.cell? (ad.add j) = some u := by
  intro j u hu
  have hj := (List.getElem?_eq_some_iff.1 hu).1
  rw [flatC_len] at hj
  have hi : j / 2 < xs.length := by omega
  have hx : xs[j / 2]? = some xs[j / 2] := List.getElem?_eq_getElem hi
  obtain ⟨b, off, e, hb, h1, h2⟩ := h.2 (j / 2) _ hx
  obtain rfl : ad = ⟨b, off, none⟩ := by injection e
  obtain ⟨f1, f2⟩ := flatC_at hx
  have ha : (⟨b, off, none⟩ : Addr).add j = ⟨b, off + j, none⟩ := by unfold Addr.add; split <;> simp_all
  rw [ha]
  rcases Nat.mod_two_eq_zero_or_one j with e | e
  · rw [show j / 2 * 2 = j by omega] at h1 f1
    rw [h1, ← f1, hu]
  · rw [show off + j / 2 * 2 + 1 = off + j by omega] at h2
    rw [show j / 2 * 2 + 1 = j by omega] at f2
    rw [h2, ← f2, hu]
/-- append of instructions, wherever they lie, onto a row of the call's own. -/
theorem app_cs {w : World} {B base k n c : Nat} {v : Value} {A : Option Addr} {ys xs : List (Int × Int)} (hr : w.ownsRow base 87 2 v k (flatC ys)) (h : InC w B A n xs) (hbw : base ≤ w.heap.size) (hk : k ≤ 1048576) (hn : n ≤ 1048576) :
    ∃ v' w', (Builtin.append_ #[43, 43] 43 #[v, .slice A n c]).run Tryd.prog w = .ok v' w' ∧ w'.ownsRow base 87 2 v' (k + n) (flatC (ys ++ xs)) ∧ Below base w w' := by
  obtain ⟨i0, hi, hz0, hz1, hz2⟩ := info_parts infoInstr
  rcases A with _ | ad
  · have hn0 : n = 0 := by
      rcases Nat.eq_zero_or_pos n with h0 | h0
      · exact h0
      · obtain ⟨_, _, _, e, _⟩ := h.at_ (k := 0) h0
        cases e
    subst hn0
    have hxs : xs = [] := List.eq_nil_of_length_eq_zero h.1
    subst hxs
    exact ⟨v, w, nil_any w base _ _ 87 i0 2 Tryd.underlying43 hi v k _ hr c, by simpa using hr, Below.refl _ _⟩
  · obtain ⟨v', w', e1, e2, e3, _⟩ := run_append_own w base 43 43 87 i0 (.agg #[.int .i64 0, .int .i64 0]) 2 16 Tryd.underlying43 hi hz0 hz1 hz2 rfl (by decide) v k _ hr ad n c (flatC xs) (by rw [flatC_len, h.1]) (flatC_news h) (flatC_one xs) (by unfold maxLen; omega) (by omega) hbw
    rw [← flatC_app] at e2
    exact ⟨v', w', e1, e2, (Below.refl base w).grown e3 hbw (fun j hj => (hr.lt j hj).1)⟩
theorem own_empty2 (w : World) (e : TypeId) : (w.alloc (.cells #[] e)).ownsRow w.heap.size e 2 (.slice (some ⟨w.heap.size, 0, none⟩) 0 0) 0 [] :=
  ⟨rfl, .inr ⟨w.heap.size, 0, #[], rfl, Nat.le_refl _, heap_alloc_new w _, Nat.le_refl _, Nat.zero_le _, rfl, rfl⟩⟩
/-- A row of instructions of the call's own has a slice's value. -/
theorem own_sliceC {w : World} {base n : Nat} {v : Value} {xs : List (Int × Int)} (h : w.ownsRow base 87 2 v n (flatC xs)) (hx : xs.length = n) : ∃ A c, v = .slice A n c ∧ OwnC w base w.heap.size A n c xs := by
  rcases h.2 with ⟨rfl, rfl⟩ | ⟨g, cap, cur, rfl, h2, h3⟩
  · exact ⟨none, 0, rfl, OwnC.of_own h hx⟩
  · exact ⟨some ⟨g, 0, none⟩, cap, rfl, OwnC.of_own h hx⟩
end Go.Proofs.YtffkdidgfeknkaaDoor

/-! A range over a method value ('for x := range list.each'), whose receiver is bound ahead of yield: one law for the caller, told by states that the rounds go through. No conditions. -/
namespace Go.Proofs.YtffkdidgfeknkaaDoor
set_option linter.unusedVariables false
open Go.RowKit Go.Shelf

/-- How a round's body may be left: on to a further state, or by a jump. -/
def leftBy {σ : Type} (B : Nat) (I : σ → World → Prop) (St : σ → Prop) (Ix : Code → World → Prop) (W : World) : Exit → Act → World → Prop
  | .normal, _, W' => KeepsFrom B W W' ∧ ∃ s', St s' ∧ I s' W'
  | .ret, _, W' => KeepsFrom B W W' ∧ Ix .ret W'
  | .exit id, _, W' => KeepsFrom B W W' ∧ Ix (.exit id) W'
  | .goto t, _, W' => KeepsFrom B W W' ∧ Ix (.goto t) W'
  | .panic _, _, _ => False
  | .outgrown, _, _ => False

/-- What an iterator owes that is bound to a receiver: whatever the rounds do, if each leads from a state to a further one. -/
def Rounds {σ α : Type} (F : Fence) (n : Nat) (P : Program) (gf : Nat) (bd : Array Value) (encs : α → Array Value) (I : σ → World → Prop) (Nx : σ → α → Prop) (St : σ → σ → Prop) (Fin : σ → Prop) (s0 : σ) : Prop :=
  ∀ (l : Nat) (J : σ → World → Prop) (Jx : World → Prop) (W : World), (∀ s W1, J s W1 → I s W1) →
    (∀ s x W1, J s W1 → Nx s x → YieldAt F (n - 1) P l (encs x) W1 fun e W' => (e = .returned (.bool true) ∧ ∃ s', St s s' ∧ J s' W') ∨ (e = .returned (.bool false) ∧ Jx W')) →
    J s0 W → CallsIn F n P gf (bd ++ #[.func (.yield l) #[] #[]]) W fun e W' => (∃ v, e = .returned v) ∧ ((∃ s, Fin s ∧ J s W') ∨ Jx W')

theorem range_bound {σ α : Type} {F : Fence} {n : Nat} {P : Program} {g : Operand} {ps : Array Tmp} {assign body : Code} {Q : Exit → Act → World → Prop} {a : Act} {w : World}
    (hro : F.round = none) (h1 : 1 ≤ n) {gf : Nat} {bd : Array Value} (hg : a.eval g = .func (.func gf) bd #[]) (hF : F.fn gf) (eg : ∀ args w, (callFunc gf args).run P w = .ok (.enter gf args) w)
    {encs : α → Array Value} (hps : ∀ x, (encs x).size = ps.size)
    (I : σ → World → Prop) (Ix : Code → World → Prop) (hI : OwnFrom w.heap.size I) (hIx : OwnFrom w.heap.size Ix) {Nx : σ → α → Prop} {St : σ → σ → Prop} {Fin : σ → Prop} {s0 : σ} (h0 : I s0 w)
    (hseq : Rounds F (n - 1) P gf bd encs I Nx St Fin s0) (Ax : α → Act)
    (hassign : ∀ (l : Nat) (s : σ) (x : α) (W : World) (K : Act → World → Prop), I s W → K (Ax x) W → assign.wpIn (F.inRound l) (n - 1 - 1) P (Exit.then K (fun _ _ _ => False)) { tmps := (ps.zip (encs x)).foldl (fun t (p, v) => t.setIfInBounds p v) a.tmps, defers := [] } W)
    (hbody : ∀ (l : Nat) (s : σ) (x : α) (W : World), w.heap.size ≤ l → I s W → Nx s x → body.wpIn (F.inRound l) (n - 1 - 1) P (leftBy w.heap.size I (St s) Ix W) (Ax x) W)
    (hdone : ∀ (D : Nat) (s : σ) (W : World), w.heap.size ≤ D → Fin s → I s W → W.heap[D]? = some (.deferred (some [])) → Q .normal { a with defers := { target := .collected D, args := #[] } :: a.defers } W)
    (hstop : ∀ (D : Nat) (c : Code) (W : World), w.heap.size ≤ D → Ix c W → W.heap[D]? = some (.deferred (some [])) → c.wpIn F n P Q { a with defers := { target := .collected D, args := #[] } :: a.defers } W) :
    (Code.rangeFunc g ps assign body).wpIn F n P Q a w := by
  refine wpIn_rangeFunc fun fn hfn => ?_
  rw [hro]
  -- the record of the loop, by its state and the jump that is pending
  obtain ⟨rc, hrc⟩ : ∃ rc : LoopState → Option Code → Loop, ∀ st pe, rc st pe = { state := st, pending := pe, fn := fn, tmps := a.tmps, params := ps, assign := assign, body := body, defers := w.heap.size } := ⟨_, fun _ _ => rfl⟩
  obtain ⟨At, hAt⟩ : ∃ At : LoopState → Option Code → World → Prop, ∀ st pe W, At st pe W ↔ (W.heap[w.heap.size + 1]? = some (.loop (rc st pe)) ∧ W.heap[w.heap.size]? = some (.deferred (some []))) := ⟨_, fun _ _ _ => Iff.rfl⟩
  have turn : ∀ {W : World} {st : LoopState} {pe : Option Code} (st' : LoopState) (pe' : Option Code), At st pe W → At st' pe' (W.putObj (w.heap.size + 1) (.loop (rc st' pe'))) := fun st' pe' h => by
    obtain ⟨h1, h2⟩ := (hAt _ _ _).1 h
    exact (hAt _ _ _).2 ⟨World.putObj_heap_same (Array.getElem?_eq_some_iff.1 h1).1, (World.putObj_heap_other (by omega)).trans h2⟩
  have kept : ∀ {W W' : World} {st : LoopState} {pe : Option Code}, KeepsFrom w.heap.size W W' → At st pe W → At st pe W' := fun hk h => by
    obtain ⟨h1, h2⟩ := (hAt _ _ _).1 h
    exact (hAt _ _ _).2 ⟨hk.same _ _ (by omega) h1 rfl, hk.same _ _ (Nat.le_refl _) h2 rfl⟩
  have put : ∀ {W : World} {st : LoopState} {pe : Option Code} {s : σ} (st' : LoopState) (pe' : Option Code), At st pe W → I s W → I s (W.putObj (w.heap.size + 1) (.loop (rc st' pe'))) := fun st' pe' h hs =>
    hI.putObj _ hs (by omega) ((hAt _ _ _).1 h).1 rfl
  have putx : ∀ {W : World} {st : LoopState} {pe : Option Code} {c : Code} (st' : LoopState) (pe' : Option Code), At st pe W → Ix c W → Ix c (W.putObj (w.heap.size + 1) (.loop (rc st' pe'))) := fun st' pe' h hs =>
    hIx.putObj _ hs (by omega) ((hAt _ _ _).1 h).1 rfl
  have begin_ : ∀ {W : World}, At .ready none W → (Instr.beginRound (w.heap.size + 1)).run P W = .ok () (W.putObj (w.heap.size + 1) (.loop (rc .busy none))) := fun h => by
    have := run_beginRound (P := P) ((hAt _ _ _).1 h).1 (by rw [hrc])
    rw [this, hrc, hrc]
  have end_ : ∀ {W : World} (jump : Option Code), At .busy none W → (Instr.endRound (w.heap.size + 1) jump).run P W = .ok (.bool jump.isNone) (W.putObj (w.heap.size + 1) (.loop (rc (if jump.isNone then .ready else .done) jump))) := fun jump h => by
    have := run_endRound (P := P) jump ((hAt _ _ _).1 h).1
    rw [this, hrc, hrc]
  have leave : ∀ {W : World} {st : LoopState} {pe : Option Code}, st ≠ .busy → At st pe W → (Instr.endLoop (w.heap.size + 1)).run P W = .ok pe (W.putObj (w.heap.size + 1) (.loop (rc .exhausted pe))) := fun hne h => by
    have := run_endLoop (P := P) ((hAt _ _ _).1 h).1 (by rw [hrc]; exact hne)
    rw [this, hrc, hrc]
  have hst : At .ready none ((w.alloc (.deferred (some []))).alloc (.loop (rc .ready none))) := by
    refine (hAt _ _ _).2 ⟨?_, ?_⟩
    · have := World.alloc_heap_new (w.alloc (.deferred (some []))) (.loop (rc .ready none))
      rwa [World.size_alloc] at this
    · exact (Below.heap_alloc _ _ _ (by simp)).trans (World.alloc_heap_new w _)
  have hs0 : I s0 ((w.alloc (.deferred (some []))).alloc (.loop (rc .ready none))) := hI.alloc _ (hI.alloc _ h0)
  refine ⟨w.heap.size + 1, [{ target := .collected w.heap.size, args := #[] }], (w.alloc (.deferred (some []))).alloc (.loop (rc .ready none)), { target := .fn (.func gf) #[], args := bd ++ #[.func (.yield (w.heap.size + 1)) #[] #[]] }, (w.alloc (.deferred (some []))).alloc (.loop (rc .ready none)), gf,
    bd ++ #[.func (.yield (w.heap.size + 1)) #[] #[]], (w.alloc (.deferred (some []))).alloc (.loop (rc .ready none)), ?_, ?_, ?_, ?_, fun _ => h1, ?_⟩
  · rw [hrc]; exact run_enterLoop_outer _ _ _ _ _
  · simp only [resolve, hg]
    simp [go_sem]
  · intro f' hf'; simp [Target.leads] at hf'; subst hf'; exact hF
  · simp [invoke, go_sem, eg]
  · refine (hseq (w.heap.size + 1) (fun s W => I s W ∧ At .ready none W) (fun W => ∃ c, Ix c W ∧ At .done (some c) W) _ (fun s W1 h => h.1) ?_ ⟨hs0, hst⟩).mono ?_
    · rintro s x W ⟨hi, hat⟩ hx
      have hy := run_yield (P := P) (args := encs x) ((hAt _ _ _).1 hat).1 (by rw [hrc]; exact hps x)
      rw [hrc] at hy
      refine ⟨fn, _, assign, body, hy, roundIn_of_wpIn hfn (hassign _ s x W _ hi ⟨_, begin_ hat, ?_⟩)⟩
      refine wpIn_mono (hbody _ s x _ (by omega) (put .busy none hat hi) hx) ?_
      have hb := turn .busy none hat
      rintro e a3 W3 hp
      cases e with
      | normal =>
        obtain ⟨hk, s', hs', hi'⟩ := hp
        have hb3 := kept hk hb
        exact ⟨_, _, end_ none hb3, .inl ⟨rfl, s', hs', put .ready none hb3 hi', turn .ready none hb3⟩⟩
      | ret =>
        have hb3 := kept hp.1 hb
        exact ⟨_, _, end_ (some .ret) hb3, .inr ⟨rfl, _, putx .done (some .ret) hb3 hp.2, turn .done (some .ret) hb3⟩⟩
      | exit id =>
        have hb3 := kept hp.1 hb
        exact ⟨_, _, end_ (some (.exit id)) hb3, .inr ⟨rfl, _, putx .done (some (.exit id)) hb3 hp.2, turn .done (some (.exit id)) hb3⟩⟩
      | goto t =>
        have hb3 := kept hp.1 hb
        exact ⟨_, _, end_ (some (.goto t)) hb3, .inr ⟨rfl, _, putx .done (some (.goto t)) hb3 hp.2, turn .done (some (.goto t)) hb3⟩⟩
      | panic ch => exact hp.elim
      | outgrown => exact hp.elim
    · rintro e W2 ⟨⟨v, rfl⟩, (⟨s, hf, hi, hat⟩ | ⟨c, hi, hat⟩)⟩
      · exact ⟨none, _, leave (by simp) hat, hdone _ s _ (Nat.le_refl _) hf (put .exhausted none hat hi) ((hAt _ _ _).1 (turn .exhausted none hat)).2⟩
      · exact ⟨some c, _, leave (by simp) hat, hstop _ c _ (Nat.le_refl _) (putx .exhausted (some c) hat hi) ((hAt _ _ _).1 (turn .exhausted (some c) hat)).2⟩
end Go.Proofs.YtffkdidgfeknkaaDoor

/-! The work list of the policies: its items in a row, their numbers in a map; add, each. Conditions: at most 1000 items. -/
namespace Go.Proofs.YtffkdidgfeknkaaDoor
set_option linter.unusedVariables false
open Go.RowKit Go.Shelf Go.Deep

/-- Nothing turns but in the blocks S, and in new ones. -/
structure Turns (S : Nat → Prop) (w w' : World) : Prop where
  os : w'.os = w.os
  tape : w'.tape = w.tape
  output : w'.output = w.output
  size : w.heap.size ≤ w'.heap.size
  block : ∀ k, k < w.heap.size → ¬ S k → w'.heap[k]? = w.heap[k]?
section
variable {S S' : Nat → Prop} {w w' w'' : World} {g i B : Nat} {t : TypeId} {cs : Array Value} {v : Value}
theorem Turns.refl (S : Nat → Prop) (w : World) : Turns S w w := ⟨rfl, rfl, rfl, Nat.le_refl _, fun _ _ _ => rfl⟩
theorem Turns.of_below (h : Below w.heap.size w w') : Turns S w w' := ⟨h.os, h.tape, h.output, h.size, fun k hk _ => h.block k hk⟩
theorem Turns.of_grown {r : Option Nat} (h : w.grownBy w' r) (hr : ∀ k, r = some k → S k) : Turns S w w' := ⟨h.os, h.tape, h.output, h.size, fun k hk hn => h.block k hk (fun e => hn (hr k e.symm))⟩
theorem Turns.trans (h : Turns S w w') (h' : Turns S' w' w'') (hs : ∀ k, k < w.heap.size → S' k → S k) : Turns S w w'' :=
  ⟨h'.os.trans h.os, h'.tape.trans h.tape, h'.output.trans h.output, Nat.le_trans h.size h'.size, fun k hk hn => (h'.block k (Nat.lt_of_lt_of_le hk h.size) (fun e => hn (hs k hk e))).trans (h.block k hk hn)⟩
theorem Turns.more (h : Turns S w w') (hs : ∀ k, k < w.heap.size → S k → S' k) : Turns S' w w' := ⟨h.os, h.tape, h.output, h.size, fun k hk hn => h.block k hk (fun e => hn (hs k hk e))⟩
theorem Turns.blk (h : Turns S w w') (hb : BlkIs w g t cs) (hn : ¬ S g) : BlkIs w' g t cs := (h.block g hb.lt hn).trans hb
theorem Turns.set (h : Turns S w w') (hg : S g) : Turns S w (w'.setCell ⟨g, i, none⟩ v) :=
  h.trans (Turns.of_grown (S := S) (only_set (g := g)) (fun k e => by injection e with e; rw [← e]; exact hg)) (fun _ _ e => e)
theorem Turns.below (h : Turns S w w') (hS : ∀ k, S k → B ≤ k) (hB : B ≤ w.heap.size) : Below B w w' := ⟨h.os, h.tape, h.output, h.size, fun k hk => h.block k (by omega) (fun e => by have := hS k e; omega)⟩
theorem Turns.keepsFrom (h : Turns S w w') (hS : ∀ k o, B ≤ k → S k → w.heap[k]? = some o → o.isCells = true) : KeepsFrom B w w' :=
  ⟨h.size, fun k o hB hk ho => (h.block k (Array.getElem?_eq_some_iff.1 hk).1 (fun e => by have := hS k o hB e hk; rw [this] at ho; cases ho)).trans hk⟩
theorem BlkIs.by_grown {r : Option Nat} (h : BlkIs w g t cs) (hg : w.grownBy w' r) (hr : r ≠ some g) : BlkIs w' g t cs := (hg.block g h.lt (fun e => hr e.symm)).trans h
end

theorem keyedW : Maps.Keyed Tryd.prog 2 := Maps.int_keyed Tryd.underlying2
theorem zeroW (w : World) : (zeroValue 2).run Tryd.prog w = .ok (.int .i64 0) w := by kernel_rfl
/-- Block b is the map of the numbers of a list's items. -/
def NumM (w : World) (b : Nat) (L : List Int) : Prop :=
  ∃ D : DataW Unit, w.ownsMap Tryd.prog 2 (plainElem Tryd.prog 2) b L.length D ∧ ∀ k : Int, Maps.has D (.int .i64 k) = decide (k ∈ L) ∧ (k ∈ L → D.atKey (.int .i64 k) (.lit (.int .i64 0)) = .lit (.int .i64 (L.idxOf k : Int)))
theorem numM_made (w : World) : NumM (w.alloc (.map #[] 0)) w.heap.size [] := ⟨.map [], World.ownsMap_made _ _ _ _, fun k => ⟨by simp [Maps.has_eq], fun h => by cases h⟩⟩
theorem numM_put {w : World} {D : DataW Unit} {b : Nat} {L : List Int} {x : Int} (h : ∀ k : Int, Maps.has D (.int .i64 k) = decide (k ∈ L) ∧ (k ∈ L → D.atKey (.int .i64 k) (.lit (.int .i64 0)) = .lit (.int .i64 (L.idxOf k : Int))))
    (hD : Maps.IsMap D) (hx : x ∉ L) (h3 : w.ownsMap Tryd.prog 2 (plainElem Tryd.prog 2) b (L.length + 1) (D.put (.int .i64 x) (.lit (.int .i64 (L.length : Int))))) : NumM w b (L ++ [x]) := by
  refine ⟨_, by rw [List.length_append]; exact h3, fun k => ?_⟩
  by_cases e : k = x
  · subst e
    refine ⟨?_, fun _ => ?_⟩
    · rw [Maps.has_put_same (k := .int .i64 k) hD trivial]; simp
    · rw [Maps.atKey_put_same (k := .int .i64 k) hD trivial, List.idxOf_append, if_neg hx]
      simp
  · refine ⟨?_, fun hk => ?_⟩
    · rw [Maps.has_put_other (fun h => e (by injection h)), (h k).1]
      simp [e]
    · have hk' : k ∈ L := by rcases List.mem_append.1 hk with h' | h'; exact h'; simp at h'; exact absurd h' e
      rw [Maps.atKey_put_other (fun h => e (by injection h)), (h k).2 hk', List.idxOf_append, if_pos hk']
theorem NumM.kept {w w' : World} {b : Nat} {L : List Int} {r : Option Nat} (h : NumM w b L) (hg : w.grownBy w' r) (hr : r ≠ some b) : NumM w' b L := by
  obtain ⟨D, h1, h2⟩ := h
  exact ⟨D, h1.kept hg (fun e => hr e.symm), h2⟩
theorem NumM.blk {w w' : World} {b : Nat} {L : List Int} (h : NumM w b L) (hb : w'.heap[b]? = w.heap[b]?) : NumM w' b L := by
  obtain ⟨D, ⟨es, clock, h3, h4⟩, h2⟩ := h
  exact ⟨D, ⟨es, clock, hb.trans h3, h4⟩, h2⟩
theorem NumM.lt {w : World} {b : Nat} {L : List Int} (h : NumM w b L) : b < w.heap.size := by obtain ⟨D, h1, _⟩ := h; exact h1.lt
theorem NumM.isMap {w : World} {b : Nat} {L : List Int} (h : NumM w b L) : ∃ es cl, w.heap[b]? = some (.map es cl) := by obtain ⟨D, ⟨es, cl, h1, _⟩, _⟩ := h; exact ⟨es, cl, h1⟩

/-- A list with an item more, if it is new. -/
def addL (x : Int) (L : List Int) : List Int := if x ∈ L then L else L ++ [x]
theorem addL_old {x : Int} {L : List Int} (h : x ∈ L) : addL x L = L := if_pos h
theorem addL_new {x : Int} {L : List Int} (h : x ∉ L) : addL x L = L ++ [x] := if_neg h
/-- The blocks of a work list. -/
def wb (g : Nat) (A : Option Addr) (mv : Option Nat) (k : Nat) : Prop := k = g ∨ (Value.slice A 0 0).ownBlock = some k ∨ mv = some k
theorem ob_any (A : Option Addr) (n c : Nat) : (Value.slice A n c).ownBlock = (Value.slice A 0 0).ownBlock := by cases A <;> rfl
section
variable {w w' : World} {g lo B c : Nat} {A : Option Addr} {mv : Option Nat} {L : List Int}
end

end Go.Proofs.YtffkdidgfeknkaaDoor

/-! The source of choices that the model draws from: what each step keeps, and between which bounds its choices lie. Conditions: fewer than 2^62 choices. -/
namespace Go.Proofs.YtffkdidgfeknkaaDoor
open Go.RowKit

/-- Block g is a source: its bytes read, its place is at most k. -/
def Src (w : World) (g k : Nat) : Prop := ∃ (A : Option Addr) (n c : Nat) (zs : List Nat) (i : Nat) (s : Int),
  w.heap[g]? = some (.cells #[.slice A n c, .int .i64 i, .int .u64 s] 104 (0, 0)) ∧ Row w g A (zs.map bc) ∧ zs.length = n ∧ (∀ z ∈ zs, z < 256) ∧ n ≤ 140737488355328 ∧ i ≤ k

theorem src_set {w : World} {g : Nat} {a b c x y : Value} {t : TypeId} (h : w.heap[g]? = some (.cells #[a, b, c] t (0, 0))) :
    ((w.setCell ⟨g, 1, none⟩ x).setCell ⟨g, 2, none⟩ y).heap[g]? = some (.cells #[a, x, y] t (0, 0)) := by
  have h1 := heap_setCell_same w g 1 _ _ x h
  have h2 := heap_setCell_same _ g 2 _ _ y h1
  simpa using h2
theorem below_set {B : Nat} {w : World} {g i : Nat} {x : Value} (h : B ≤ g) : Below B w (w.setCell ⟨g, i, none⟩ x) := (Below.refl B w).setCell (p := ⟨g, i, none⟩) h x

theorem src_after {w : World} {g k i : Nat} {A : Option Addr} {n c : Nat} {zs : List Nat} {s s' : Int} {a d : Nat} (hg : w.heap[g]? = some (.cells #[.slice A n c, .int .i64 i, .int .u64 s] 104 (0, 0)))
    (hrow : Row w g A (zs.map bc)) (hlen : zs.length = n) (hz : ∀ z ∈ zs, z < 256) (hn : n ≤ 140737488355328) (hi : i ≤ k) :
    Src ((((w.drewN a).setCell ⟨g, 1, none⟩ (.int .i64 ((i : Int) + 1))).setCell ⟨g, 2, none⟩ (.int .u64 s')).drewN d) g (k + 1) ∧
    w.grownBy ((((w.drewN a).setCell ⟨g, 1, none⟩ (.int .i64 ((i : Int) + 1))).setCell ⟨g, 2, none⟩ (.int .u64 s')).drewN d) (some g) := by
  have hb : Below g w ((((w.drewN a).setCell ⟨g, 1, none⟩ (.int .i64 ((i : Int) + 1))).setCell ⟨g, 2, none⟩ (.int .u64 s')).drewN d) :=
    below_drewN (((below_drewN (Below.refl g w) a).trans (below_set (Nat.le_refl g))).trans (below_set (Nat.le_refl g))) d
  refine ⟨⟨A, n, c, zs, i + 1, s', ?_, hrow.below hb (Nat.le_refl _), hlen, hz, hn, by omega⟩, only_drewN (only_trans (only_trans (only_drewN (only_refl w _) a) only_set) only_set) d⟩
  have h1 := src_set (w := w.drewN a) (x := .int .i64 ((i : Int) + 1)) (y := .int .u64 s') hg
  simpa using h1
theorem mask255 (x : Int) (h0 : 0 ≤ x) (h1 : x < 18446744073709551616) : 0 ≤ bits .and .u64 x 255 ∧ bits .and .u64 x 255 ≤ 255 := by
  rw [u64_and x 255 h0 h1 (by omega) (by omega)]
  have h : x.toNat &&& (255 : Int).toNat ≤ 255 := Nat.and_le_right
  omega
theorem shr40 (y : Int) : 0 ≤ IntKind.u64.wrap y / 1099511627776 ∧ IntKind.u64.wrap y / 1099511627776 < 18446744073709551616 := by
  have h := bounds_u64 (wf_wrap .u64 y)
  omega
theorem wrap_mask (y : Int) : 0 ≤ wrap64 (bits .and .u64 (IntKind.u64.wrap y / 1099511627776) 255) ∧ wrap64 (bits .and .u64 (IntKind.u64.wrap y / 1099511627776) 255) ≤ 255 := by
  have h := mask255 _ (shr40 y).1 (shr40 y).2
  rw [IntWalk.wrap64_in _ ⟨by omega, by omega⟩]
  exact h

set_option maxRecDepth 100000 in
set_option maxHeartbeats 1000000 in
theorem next_c (g k : Nat) (w : World) (h : Src w g k) (hk : k ≤ 1000000000000) :
    Calls Tryd.prog 64 #[.pointer (some ⟨g, 0, none⟩)] w fun e w' => ∃ x : Int, e = .returned (.int .i64 x) ∧ 0 ≤ x ∧ x ≤ 255 ∧ Src w' g (k + 1) ∧ w.grownBy w' (some g) := by
  obtain ⟨A, n, c, zs, i, s, hg, hrow, hlen, hz, hn, hi⟩ := h
  have hc0 : w.cell? ⟨g, 0, none⟩ = some (.slice A n c) := by rw [cell_of_row w g 0 _ _ _ hg]; rfl
  have hc1 : w.cell? ⟨g, 1, none⟩ = some (.int .i64 i) := by rw [cell_of_row w g 1 _ _ _ hg]; rfl
  have hc2 : w.cell? ⟨g, 2, none⟩ = some (.int .u64 s) := by rw [cell_of_row w g 2 _ _ _ hg]; rfl
  have hf1 : w.frozen? ⟨g, 1, none⟩ = false := by simp [World.frozen?, hg]
  have hf2 : w.frozen? ⟨g, 2, none⟩ = false := by simp [World.frozen?, hg]
  have HAF := Lib.hid (fun (s' : Int) (a d : Nat) => src_after (s' := s') (a := a) (d := d) hg hrow hlen hz hn hi)
  clear hg
  by_cases hlt : i < n
  · obtain ⟨b, off, hA, hb, hc⟩ := hrow i (by simp; omega)
    subst hA
    obtain ⟨z, hzi⟩ : ∃ z, zs[i]? = some z := ⟨_, List.getElem?_eq_getElem (by omega)⟩
    have hz256 := hz z (List.mem_of_getElem? hzi)
    rw [List.getElem?_map, hzi] at hc
    simp only [Option.map, bc] at hc
    clear hzi hz
    go_enter Tryd.func64, Tryd.ntmps64
    go_wp2
    go_quiet (fail)
    go_wp2
    go_quiet (fail)
    go_wp2
    go_quiet (fail)
    go_wp2
    go_ret
    exact ⟨z, rfl, by omega, by omega, HAF.out _ _ _⟩
  · clear hz
    go_enter Tryd.func64, Tryd.ntmps64
    go_wp2
    go_quiet (fail)
    go_wp2
    go_quiet (fail)
    go_wp2
    go_ret
    exact ⟨_, rfl, (wrap_mask _).1, (wrap_mask _).2, HAF.out _ _ _⟩

theorem Src.more {w : World} {g k k' : Nat} (h : Src w g k) (hk : k ≤ k') : Src w g k' := by
  obtain ⟨A, n, c, zs, i, s, h1, h2, h3, h4, h5, h6⟩ := h
  exact ⟨A, n, c, zs, i, s, h1, h2, h3, h4, h5, by omega⟩
theorem Src.lt {w : World} {g k : Nat} (h : Src w g k) : g < w.heap.size := by
  obtain ⟨A, n, c, zs, i, s, h1, _⟩ := h
  rcases Nat.lt_or_ge g w.heap.size with hlt | hge
  · exact hlt
  · simp [Array.getElem?_eq_none hge] at h1
theorem Src.below {w w' : World} {g k B : Nat} (h : Src w g k) (hb : Below B w w') (hB : g < B) : Src w' g k := by
  obtain ⟨A, n, c, zs, i, s, h1, h2, h3⟩ := h
  exact ⟨A, n, c, zs, i, s, (hb.block g hB).trans h1, h2.below hb (Nat.le_of_lt hB), h3⟩

set_option maxRecDepth 100000 in
set_option maxHeartbeats 1000000 in
theorem pick_c (g k : Nat) (n : Int) (w : World) (h : Src w g k) (hk : k ≤ 100000000000) (hn1 : 1 ≤ n) (hn2 : n ≤ 1000000000) :
    Calls Tryd.prog 31 #[.pointer (some ⟨g, 0, none⟩), .int .i64 n] w fun e w' => ∃ x : Int, e = .returned (.int .i64 x) ∧ 0 ≤ x ∧ x < n ∧ Src w' g (k + 2) ∧ w.grownBy w' (some g) := by
  have H := Lib.hid h
  clear h
  by_cases h1 : n ≤ 1
  · go_enter Tryd.func31, Tryd.ntmps31
    go_wp2_with fail
    go_ret
    exact ⟨0, rfl, by omega, by omega, H.out.more (by omega), only_refl _ _⟩
  · by_cases h2 : 200 < n
    · go_enter Tryd.func31, Tryd.ntmps31
      go_wp2_with fail
      refine (next_c g k _ H.out (by omega)).mono ?_
      rintro e w1 ⟨x, rfl, hx0, hx1, hs1, hb1⟩
      have HS1 := Lib.hid hs1
      clear hs1
      go_wp2_with fail
      refine (next_c g (k + 1) _ HS1.out (by omega)).mono ?_
      rintro e w2 ⟨y, rfl, hy0, hy1, hs2, hb2⟩
      have HS2 := Lib.hid hs2
      clear hs2
      have hxy : 0 ≤ x * 256 + y := by omega
      have hr := Int.emod_lt_of_pos (x * 256 + y) (by omega : 0 < n)
      have hr0 := Int.emod_nonneg (x * 256 + y) (by omega : n ≠ 0)
      go_wp2_with fail
      go_ret
      exact ⟨_, rfl, hr0, hr, HS2.out, only_trans hb1 hb2⟩
    · go_enter Tryd.func31, Tryd.ntmps31
      go_wp2_with fail
      refine (next_c g k _ H.out (by omega)).mono ?_
      rintro e w1 ⟨x, rfl, hx0, hx1, hs1, hb1⟩
      have HS1 := Lib.hid hs1
      clear hs1
      have hr := Int.emod_lt_of_pos x (by omega : 0 < n)
      have hr0 := Int.emod_nonneg x (by omega : n ≠ 0)
      go_wp2_with fail
      go_ret
      exact ⟨_, rfl, hr0, hr, HS1.out.more (by omega), hb1⟩

set_option maxHeartbeats 1000000 in
theorem one_c (g k : Nat) (n : Int) (w : World) (h : Src w g k) (hk : k ≤ 100000000000) (hn1 : 1 ≤ n) (hn2 : n ≤ 1000000000) :
    Calls Tryd.prog 65 #[.pointer (some ⟨g, 0, none⟩), .int .i64 n] w fun e w' => ∃ t : Bool, e = .returned (.bool t) ∧ Src w' g (k + 2) ∧ w.grownBy w' (some g) := by
  have H := Lib.hid h
  clear h
  go_enter Tryd.func65, Tryd.ntmps65
  go_wp2_with fail
  refine (pick_c g k n _ H.out hk hn1 hn2).mono ?_
  rintro e w1 ⟨x, rfl, hx0, hx1, hs1, hb1⟩
  have HS1 := Lib.hid hs1
  clear hs1
  go_wp2_with fail
  go_ret
  exact ⟨_, rfl, HS1.out, hb1⟩

set_option maxHeartbeats 1000000 in
theorem among_c (g k : Nat) (A : Option Addr) (n c B : Nat) (zs : List Int) (w : World) (h : Src w g k) (hk : k ≤ 100000000000) (hrow : Row w B A (zs.map ic)) (hz : zs.length = n) (hn1 : 1 ≤ n) (hn2 : n ≤ 1000)
    (hbl : ∀ b off, A = some ⟨b, off, none⟩ → b ≠ g) :
    Calls Tryd.prog 66 #[.pointer (some ⟨g, 0, none⟩), .slice A n c] w fun e w' => ∃ x : Int, e = .returned (.int .i64 x) ∧ x ∈ zs ∧ Src w' g (k + 2) ∧ w.grownBy w' (some g) := by
  have H := Lib.hid h
  have HB := Lib.hid hbl
  clear h hbl
  go_enter Tryd.func66, Tryd.ntmps66
  go_wp2_with fail
  refine (pick_c g k (n : Int) _ H.out hk (by omega) (by omega)).mono ?_
  rintro e w1 ⟨x, rfl, hx0, hx1, hs1, hb1⟩
  obtain ⟨j, rfl⟩ := Int.eq_ofNat_of_zero_le hx0
  obtain ⟨b, off, y, rfl, hb, hy, hc⟩ := hrow.int_at (k := j) (by omega)
  have hne := HB.out b off rfl
  have hc1 : w1.cell? ⟨b, off + j, none⟩ = some (.int .i64 y) := by
    rw [World.cell?_of_block (hb1.block b (cell_lt hc) (fun e => hne (by injection e)))]; exact hc
  have HS1 := Lib.hid hs1
  have HY := Lib.hid (List.mem_of_getElem? hy)
  clear hs1 hc hy hne
  go_wp2_with fail
  go_ret
  exact ⟨y, rfl, HY.out, HS1.out, hb1⟩

set_option maxHeartbeats 1000000 in
/-- l00From: a new source. -/
theorem l00From_c (A : Option Addr) (n c : Nat) (zs : List Nat) (w : World) (hrow : Row w w.heap.size A (zs.map bc)) (hz : zs.length = n) (hz2 : ∀ z ∈ zs, z < 256) (hn : n ≤ 140737488355328) :
    Calls Tryd.prog 30 #[.slice A n c] w fun e w' => ∃ g, e = .returned (.pointer (some ⟨g, 0, none⟩)) ∧ g = w.heap.size ∧ Src w' g 0 ∧ Below w.heap.size w w' := by
  go_enter Tryd.func30, Tryd.ntmps30
  go_wp2
  go_ret
  have hb : Below w.heap.size w (w.alloc (.cells #[.slice A n c, .int .i64 0, .int .u64 0] 104)) := (Below.refl _ _).alloc (Nat.le_refl _) _
  exact ⟨_, rfl, rfl, ⟨A, n, c, zs, 0, 0, heap_alloc_new w _, hrow.below hb (Nat.le_refl _), hz, hz2, hn, by omega⟩, hb⟩
end Go.Proofs.YtffkdidgfeknkaaDoor

/-! The model's drawing of valid code. Conditions: fewer than a million choices before. -/
namespace Go.Proofs.YtffkdidgfeknkaaDoor
set_option linter.unusedVariables false
open Go.RowKit

theorem grow_onI {wc W W' : World} {g : Nat} (h : wc.grownBy W (some g)) (hb : Below wc.heap.size W W') : wc.grownBy W' (some g) :=
  ⟨hb.os.trans h.os, hb.tape.trans h.tape, hb.output.trans h.output, Nat.le_trans h.size hb.size, fun i hi hne => (hb.block i hi).trans (h.block i hi hne)⟩
theorem row_two (w : World) (a b : Int) : Row (w.alloc (.cells #[.int .i64 a, .int .i64 b] 2)) (w.heap.size + 1) (some ⟨w.heap.size, 0, none⟩) ([a, b].map ic) := fun j hj => by
  refine ⟨w.heap.size, 0, rfl, Nat.lt_succ_self _, ?_⟩
  have hj' : j < 2 := by simpa using hj
  have h := (blk_new w 2 #[.int .i64 a, .int .i64 b] w.heap.size rfl).cell j
  rw [Nat.zero_add, h]
  rcases (show j = 0 ∨ j = 1 by omega) with rfl | rfl <;> rfl
theorem l00Min_c2 (a b : Int) (w : World) : Calls Tryd.prog 99 #[.int .i64 a, .int .i64 b] w fun e w' => e = .returned (.int .i64 (min a b)) ∧ w' = w := by
  by_cases h : a < b
  · rw [Int.min_eq_left (by omega)]
    go_enter Tryd.func99, Tryd.ntmps99
    go_wp2_with fail
    go_ret
    exact ⟨rfl, rfl⟩
  · rw [Int.min_eq_right (by omega)]
    go_enter Tryd.func99, Tryd.ntmps99
    go_wp2_with fail
    go_ret
    exact ⟨rfl, rfl⟩

set_option maxRecDepth 100000 in
set_option maxHeartbeats 8000000 in
theorem l07DrawInstr_c (g k : Nat) (n : Int) (w : World) (h : Src w g k) (hk : k ≤ 1000000) (hn1 : 1 ≤ n) (hn2 : n ≤ 80) :
    Calls Tryd.prog 81 #[.pointer (some ⟨g, 0, none⟩), .int .i64 n] w fun e w' => ∃ a b : Int, e = .returned (.agg #[.int .i64 a, .int .i64 b]) ∧ instrB a b = true ∧ Src w' g (k + 8) ∧ w.grownBy w' (some g) := by
  have hglt := h.lt
  have hR0 : BlkIs (w.alloc (.cells #[.int .i64 0, .int .i64 0] 87)) w.heap.size 87 #[.int .i64 0, .int .i64 0] := blk_new _ _ _ _ rfl
  have hb0 := bnew w (.cells #[.int .i64 0, .int .i64 0] 87)
  have HS0 := Lib.hid (h.below hb0 hglt)
  have hg0 : w.grownBy (w.alloc (.cells #[.int .i64 0, .int .i64 0] 87)) (some g) := World.grownBy_alloc w _ (some g)
  obtain ⟨rb, hrb⟩ : ∃ rb, w.heap.size = rb := ⟨_, rfl⟩
  rw [hrb] at hR0 hglt
  have HRB := Lib.hid hrb
  clear h hb0 hrb
  go_enter Tryd.func81, Tryd.ntmps81
  go_wp2_with fail
  generalize w.alloc (.cells #[.int .i64 0, .int .i64 0] 87) = W0 at hR0 HS0 hg0 ⊢
  rw [HRB.out]
  refine (pick_c g k 12 _ HS0.out (by omega) (by omega) (by omega)).mono ?_
  rintro e w1 ⟨x, rfl, hx0, hx1, hs1, hb1⟩
  have hR1 := hR0.by_grown hb1 (fun e => by injection e; omega)
  have hg1 := only_trans hg0 hb1
  have u0 : w1.cell? ⟨rb, 0, none⟩ = some (.int .i64 0) := hR1.cell 0
  have u1 : w1.cell? ⟨rb, 1, none⟩ = some (.int .i64 0) := hR1.cell 1
  have v0 := hR1.frozen 0
  have v1 := hR1.frozen 1
  have hrl := hR1.lt
  have hgl := hs1.lt
  have hX2 : BlkIs (w1.alloc (.cells #[.int .i64 x, .int .i64 0] 87)) w1.heap.size 87 #[.int .i64 x, .int .i64 0] := blk_new _ _ _ _ rfl
  have hb2 := bnew w1 (.cells #[.int .i64 x, .int .i64 0] 87)
  have hR2 := hR1.next hb2
  have HS2 := Lib.hid (hs1.below hb2 hgl)
  have hg2 := only_trans hg1 (World.grownBy_alloc w1 (.cells #[.int .i64 x, .int .i64 0] 87) (some g))
  have x0 : (w1.alloc (.cells #[.int .i64 x, .int .i64 0] 87)).cell? ⟨w1.heap.size, 0, none⟩ = some (.int .i64 x) := hX2.cell 0
  have x1 : (w1.alloc (.cells #[.int .i64 x, .int .i64 0] 87)).cell? ⟨w1.heap.size, 1, none⟩ = some (.int .i64 0) := hX2.cell 1
  have q0 := hR2.frozen 0
  have q1 := hR2.frozen 1
  have HS1 := Lib.hid hs1
  clear hs1 hb1 hb2 HS0 hR0 hg0
  have HC := Lib.hid (show x = 0 ∨ x = 1 ∨ x = 2 ∨ x = 3 ∨ x = 4 ∨ x = 5 ∨ x = 6 ∨ x = 7 ∨ x = 8 ∨ x = 9 ∨ x = 10 ∨ x = 11 by omega)
  clear hx0 hx1
  rcases HC.out with rfl | rfl | rfl | rfl | rfl | rfl | rfl | rfl | rfl | rfl | rfl | rfl
  · clear HC
    go_wp2_with fail
    generalize w1.alloc (.cells #[.int .i64 0, .int .i64 0] 87) = W2 at hX2 hR2 HS2 hg2 x0 x1 q0 q1 ⊢
    generalize w1.heap.size = xb at hX2 x0 x1 hrl hgl ⊢
    refine (pick_c g _ 9 _ HS2.out (by omega) (by omega) (by omega)).mono ?_
    rintro e w4 ⟨y, rfl, hy0, hy1, hs4, hb4⟩
    have hX4 := hX2.by_grown hb4 (fun e => by injection e; omega)
    have hR4 := hR2.by_grown hb4 (fun e => by injection e; omega)
    have hg4 := only_trans hg2 hb4
    have f4 := hX4.frozen 1
    have c4 : w4.cell? ⟨xb, 1, none⟩ = some (.int .i64 0) := hX4.cell 1
    have hX5 := hX4.set 1 (.int .i64 (y - 3))
    have hRl := hR4.far (show rb ≠ xb by omega) 1 (.int .i64 (y - 3))
    have x5 : (w4.setCell ⟨xb, 1, none⟩ (.int .i64 (y - 3))).cell? ⟨xb, 0, none⟩ = some (.int .i64 0) := hX5.cell 0
    have x6 : (w4.setCell ⟨xb, 1, none⟩ (.int .i64 (y - 3))).cell? ⟨xb, 1, none⟩ = some (.int .i64 (y - 3)) := hX5.cell 1
    have hbs : Below w.heap.size w4 (w4.setCell ⟨xb, 1, none⟩ (.int .i64 (y - 3))) := below_set (by have := HRB.out; omega)
    have hgl4 := grow_onI hg4 hbs
    have HSl := Lib.hid (hs4.below hbs (by have := HRB.out; omega))
    have q4 := hRl.frozen 0
    have q5 := hRl.frozen 1
    have r4 : (w4.setCell ⟨xb, 1, none⟩ (.int .i64 (y - 3))).cell? ⟨rb, 0, none⟩ = some (.int .i64 0) := hRl.cell 0
    have r5 : (w4.setCell ⟨xb, 1, none⟩ (.int .i64 (y - 3))).cell? ⟨rb, 1, none⟩ = some (.int .i64 0) := hRl.cell 1
    clear hX2 hR2 HS2 hg2 x0 x1 q0 q1 hR4 hg4 hs4 hb4 hbs hX4
    have hgx : g < w.heap.size := by have := HRB.out; omega
    go_wp2_with fail
    generalize (w4.setCell ⟨xb, 1, none⟩ (.int .i64 (y - 3))) = W5 at hX5 hRl x5 x6 hgl4 HSl q4 q5 r4 r5 ⊢
    refine (one_c g _ 20 _ HSl.out (by omega) (by omega) (by omega)).mono ?_
    rintro e w6 ⟨t, rfl, hs6, hb6⟩
    have hX6 := hX5.by_grown hb6 (fun e => by injection e; omega)
    have hR6 := hRl.by_grown hb6 (fun e => by injection e; omega)
    have hg6 := only_trans hgl4 hb6
    clear hX5 hRl x5 x6 hgl4 HSl q4 q5 hb6 f4 c4 r4 r5
    cases t with
    | false =>
      have hRl := hR6
      have hgl4 := hg6
      have HSl := Lib.hid hs6
      have x5 : w6.cell? ⟨xb, 0, none⟩ = some (.int .i64 0) := hX6.cell 0
      have x6 : w6.cell? ⟨xb, 1, none⟩ = some (.int .i64 (y - 3)) := hX6.cell 1
      have q4 := hRl.frozen 0
      have q5 := hRl.frozen 1
      have r4 : w6.cell? ⟨rb, 0, none⟩ = some (.int .i64 0) := hRl.cell 0
      have r5 : w6.cell? ⟨rb, 1, none⟩ = some (.int .i64 0) := hRl.cell 1
      go_wp2_with fail
      have hRz := (hRl.set 0 (.int .i64 0)).set 1 (.int .i64 (y - 3))
      have s0 : ((w6.setCell ⟨rb, 0, none⟩ (.int .i64 0)).setCell ⟨rb, 1, none⟩ (.int .i64 (y - 3))).cell? ⟨rb, 0, none⟩ = some (.int .i64 0) := by rw [hRz.cell 0]; simp
      have s1 : ((w6.setCell ⟨rb, 0, none⟩ (.int .i64 0)).setCell ⟨rb, 1, none⟩ (.int .i64 (y - 3))).cell? ⟨rb, 1, none⟩ = some (.int .i64 (y - 3)) := by rw [hRz.cell 1]; simp
      refine bodyPost_ret (v := .agg #[.int .i64 0, .int .i64 (y - 3)]) (by simp [results, Tryd.results81, go_sem, s0, s1]) rfl ?_
      refine ⟨0, y - 3, rfl, ?_, ?_, ?_⟩
      · rw [instrB_0]; simp; omega
      · have hbz : Below w.heap.size w6 ((w6.setCell ⟨rb, 0, none⟩ (.int .i64 0)).setCell ⟨rb, 1, none⟩ (.int .i64 (y - 3))) := (below_set (by have := HRB.out; omega)).trans (below_set (by have := HRB.out; omega))
        exact (HSl.out.more (by omega)).below hbz (by have := HRB.out; omega)
      · exact grow_onI hgl4 ((below_set (by have := HRB.out; omega)).trans (below_set (by have := HRB.out; omega)))
    | true =>
      have hb7 := bnew w6 (.cells #[.int .i64 1000000, .int .i64 (-1000000)] 2)
      have hX7 := hX6.next hb7
      have hR7 := hR6.next hb7
      have hg7 := grow_onI hg6 (hb7.mono hg6.size)
      have HAM := Lib.hid (among_c g (k + 2 + 2 + 2) (some ⟨w6.heap.size, 0, none⟩) 2 2 (w6.heap.size + 1) [1000000, -1000000] (w6.alloc (.cells #[.int .i64 1000000, .int .i64 (-1000000)] 2)) (hs6.below hb7 hs6.lt) (by omega) (row_two w6 _ _) rfl (by omega) (by omega) (fun b off e => by have := hs6.lt; injection e with e; injection e with e1 e2; omega))
      go_wp2_with fail
      refine HAM.out.mono ?_
      rintro e w8 ⟨z, rfl, hz, hs8, hb8⟩
      have hX8 := hX7.by_grown hb8 (fun e => by injection e; omega)
      have hR8 := hR7.by_grown hb8 (fun e => by injection e; omega)
      have hg8 := only_trans hg7 hb8
      have f8 := hX8.frozen 1
      have c8 : w8.cell? ⟨xb, 1, none⟩ = some (.int .i64 (y - 3)) := hX8.cell 1
      have hX9 := hX8.set 1 (.int .i64 (z))
      have hRl := hR8.far (show rb ≠ xb by omega) 1 (.int .i64 (z))
      have x5 : (w8.setCell ⟨xb, 1, none⟩ (.int .i64 (z))).cell? ⟨xb, 0, none⟩ = some (.int .i64 0) := hX9.cell 0
      have x6 : (w8.setCell ⟨xb, 1, none⟩ (.int .i64 (z))).cell? ⟨xb, 1, none⟩ = some (.int .i64 (z)) := hX9.cell 1
      have hbs : Below w.heap.size w8 (w8.setCell ⟨xb, 1, none⟩ (.int .i64 (z))) := below_set (by have := HRB.out; omega)
      have hgl4 := grow_onI hg8 hbs
      have HSl := Lib.hid (hs8.below hbs (by have := HRB.out; omega))
      have q4 := hRl.frozen 0
      have q5 := hRl.frozen 1
      have r4 : (w8.setCell ⟨xb, 1, none⟩ (.int .i64 (z))).cell? ⟨rb, 0, none⟩ = some (.int .i64 0) := hRl.cell 0
      have r5 : (w8.setCell ⟨xb, 1, none⟩ (.int .i64 (z))).cell? ⟨rb, 1, none⟩ = some (.int .i64 0) := hRl.cell 1
      clear hX6 hR6 hX7 hR7 hg7 hg6 HAM hb7 hs6 hX8 hR8 hb8 hs8 hbs
      go_wp2_with fail
      have hRz := (hRl.set 0 (.int .i64 0)).set 1 (.int .i64 (z))
      have s0 : (((w8.setCell ⟨xb, 1, none⟩ (.int .i64 (z))).setCell ⟨rb, 0, none⟩ (.int .i64 0)).setCell ⟨rb, 1, none⟩ (.int .i64 (z))).cell? ⟨rb, 0, none⟩ = some (.int .i64 0) := by rw [hRz.cell 0]; simp
      have s1 : (((w8.setCell ⟨xb, 1, none⟩ (.int .i64 (z))).setCell ⟨rb, 0, none⟩ (.int .i64 0)).setCell ⟨rb, 1, none⟩ (.int .i64 (z))).cell? ⟨rb, 1, none⟩ = some (.int .i64 (z)) := by rw [hRz.cell 1]; simp
      refine bodyPost_ret (v := .agg #[.int .i64 0, .int .i64 (z)]) (by simp [results, Tryd.results81, go_sem, s0, s1]) rfl ?_
      refine ⟨0, z, rfl, ?_, ?_, ?_⟩
      · rw [instrB_0]; rcases List.mem_cons.1 hz with rfl | hz; decide; obtain rfl := List.mem_singleton.1 hz; decide
      · have hbz : Below w.heap.size (w8.setCell ⟨xb, 1, none⟩ (.int .i64 (z))) (((w8.setCell ⟨xb, 1, none⟩ (.int .i64 (z))).setCell ⟨rb, 0, none⟩ (.int .i64 0)).setCell ⟨rb, 1, none⟩ (.int .i64 (z))) := (below_set (by have := HRB.out; omega)).trans (below_set (by have := HRB.out; omega))
        exact (HSl.out.more (by omega)).below hbz (by have := HRB.out; omega)
      · exact grow_onI hgl4 ((below_set (by have := HRB.out; omega)).trans (below_set (by have := HRB.out; omega)))
  · clear HC
    go_wp2_with fail
    generalize w1.alloc (.cells #[.int .i64 1, .int .i64 0] 87) = W2 at hX2 hR2 HS2 hg2 x0 x1 q0 q1 ⊢
    generalize w1.heap.size = xb at hX2 x0 x1 hrl hgl ⊢
    refine (pick_c g _ 4 _ HS2.out (by omega) (by omega) (by omega)).mono ?_
    rintro e w4 ⟨y, rfl, hy0, hy1, hs4, hb4⟩
    have hX4 := hX2.by_grown hb4 (fun e => by injection e; omega)
    have hR4 := hR2.by_grown hb4 (fun e => by injection e; omega)
    have hg4 := only_trans hg2 hb4
    have f4 := hX4.frozen 1
    have c4 : w4.cell? ⟨xb, 1, none⟩ = some (.int .i64 0) := hX4.cell 1
    have hX5 := hX4.set 1 (.int .i64 (y))
    have hRl := hR4.far (show rb ≠ xb by omega) 1 (.int .i64 (y))
    have x5 : (w4.setCell ⟨xb, 1, none⟩ (.int .i64 (y))).cell? ⟨xb, 0, none⟩ = some (.int .i64 1) := hX5.cell 0
    have x6 : (w4.setCell ⟨xb, 1, none⟩ (.int .i64 (y))).cell? ⟨xb, 1, none⟩ = some (.int .i64 (y)) := hX5.cell 1
    have hbs : Below w.heap.size w4 (w4.setCell ⟨xb, 1, none⟩ (.int .i64 (y))) := below_set (by have := HRB.out; omega)
    have hgl4 := grow_onI hg4 hbs
    have HSl := Lib.hid (hs4.below hbs (by have := HRB.out; omega))
    have q4 := hRl.frozen 0
    have q5 := hRl.frozen 1
    have r4 : (w4.setCell ⟨xb, 1, none⟩ (.int .i64 (y))).cell? ⟨rb, 0, none⟩ = some (.int .i64 0) := hRl.cell 0
    have r5 : (w4.setCell ⟨xb, 1, none⟩ (.int .i64 (y))).cell? ⟨rb, 1, none⟩ = some (.int .i64 0) := hRl.cell 1
    clear hX2 hR2 HS2 hg2 x0 x1 q0 q1 hR4 hg4 hs4 hb4 hbs hX4
    go_wp2_with fail
    have hRz := (hRl.set 0 (.int .i64 1)).set 1 (.int .i64 (y))
    have s0 : (((w4.setCell ⟨xb, 1, none⟩ (.int .i64 (y))).setCell ⟨rb, 0, none⟩ (.int .i64 1)).setCell ⟨rb, 1, none⟩ (.int .i64 (y))).cell? ⟨rb, 0, none⟩ = some (.int .i64 1) := by rw [hRz.cell 0]; simp
    have s1 : (((w4.setCell ⟨xb, 1, none⟩ (.int .i64 (y))).setCell ⟨rb, 0, none⟩ (.int .i64 1)).setCell ⟨rb, 1, none⟩ (.int .i64 (y))).cell? ⟨rb, 1, none⟩ = some (.int .i64 (y)) := by rw [hRz.cell 1]; simp
    refine bodyPost_ret (v := .agg #[.int .i64 1, .int .i64 (y)]) (by simp [results, Tryd.results81, go_sem, s0, s1]) rfl ?_
    refine ⟨1, y, rfl, ?_, ?_, ?_⟩
    · rw [instrB_1]; simp; omega
    · have hbz : Below w.heap.size (w4.setCell ⟨xb, 1, none⟩ (.int .i64 (y))) (((w4.setCell ⟨xb, 1, none⟩ (.int .i64 (y))).setCell ⟨rb, 0, none⟩ (.int .i64 1)).setCell ⟨rb, 1, none⟩ (.int .i64 (y))) := (below_set (by have := HRB.out; omega)).trans (below_set (by have := HRB.out; omega))
      exact (HSl.out.more (by omega)).below hbz (by have := HRB.out; omega)
    · exact grow_onI hgl4 ((below_set (by have := HRB.out; omega)).trans (below_set (by have := HRB.out; omega)))
  · clear HC
    go_wp2_with fail
    generalize w1.alloc (.cells #[.int .i64 2, .int .i64 0] 87) = W2 at hX2 hR2 HS2 hg2 x0 x1 q0 q1 ⊢
    generalize w1.heap.size = xb at hX2 x0 x1 hrl hgl ⊢
    refine (pick_c g _ 4 _ HS2.out (by omega) (by omega) (by omega)).mono ?_
    rintro e w4 ⟨y, rfl, hy0, hy1, hs4, hb4⟩
    have hX4 := hX2.by_grown hb4 (fun e => by injection e; omega)
    have hR4 := hR2.by_grown hb4 (fun e => by injection e; omega)
    have hg4 := only_trans hg2 hb4
    have f4 := hX4.frozen 1
    have c4 : w4.cell? ⟨xb, 1, none⟩ = some (.int .i64 0) := hX4.cell 1
    have hX5 := hX4.set 1 (.int .i64 (y))
    have hRl := hR4.far (show rb ≠ xb by omega) 1 (.int .i64 (y))
    have x5 : (w4.setCell ⟨xb, 1, none⟩ (.int .i64 (y))).cell? ⟨xb, 0, none⟩ = some (.int .i64 2) := hX5.cell 0
    have x6 : (w4.setCell ⟨xb, 1, none⟩ (.int .i64 (y))).cell? ⟨xb, 1, none⟩ = some (.int .i64 (y)) := hX5.cell 1
    have hbs : Below w.heap.size w4 (w4.setCell ⟨xb, 1, none⟩ (.int .i64 (y))) := below_set (by have := HRB.out; omega)
    have hgl4 := grow_onI hg4 hbs
    have HSl := Lib.hid (hs4.below hbs (by have := HRB.out; omega))
    have q4 := hRl.frozen 0
    have q5 := hRl.frozen 1
    have r4 : (w4.setCell ⟨xb, 1, none⟩ (.int .i64 (y))).cell? ⟨rb, 0, none⟩ = some (.int .i64 0) := hRl.cell 0
    have r5 : (w4.setCell ⟨xb, 1, none⟩ (.int .i64 (y))).cell? ⟨rb, 1, none⟩ = some (.int .i64 0) := hRl.cell 1
    clear hX2 hR2 HS2 hg2 x0 x1 q0 q1 hR4 hg4 hs4 hb4 hbs hX4
    go_wp2_with fail
    have hRz := (hRl.set 0 (.int .i64 2)).set 1 (.int .i64 (y))
    have s0 : (((w4.setCell ⟨xb, 1, none⟩ (.int .i64 (y))).setCell ⟨rb, 0, none⟩ (.int .i64 2)).setCell ⟨rb, 1, none⟩ (.int .i64 (y))).cell? ⟨rb, 0, none⟩ = some (.int .i64 2) := by rw [hRz.cell 0]; simp
    have s1 : (((w4.setCell ⟨xb, 1, none⟩ (.int .i64 (y))).setCell ⟨rb, 0, none⟩ (.int .i64 2)).setCell ⟨rb, 1, none⟩ (.int .i64 (y))).cell? ⟨rb, 1, none⟩ = some (.int .i64 (y)) := by rw [hRz.cell 1]; simp
    refine bodyPost_ret (v := .agg #[.int .i64 2, .int .i64 (y)]) (by simp [results, Tryd.results81, go_sem, s0, s1]) rfl ?_
    refine ⟨2, y, rfl, ?_, ?_, ?_⟩
    · rw [instrB_2]; simp; omega
    · have hbz : Below w.heap.size (w4.setCell ⟨xb, 1, none⟩ (.int .i64 (y))) (((w4.setCell ⟨xb, 1, none⟩ (.int .i64 (y))).setCell ⟨rb, 0, none⟩ (.int .i64 2)).setCell ⟨rb, 1, none⟩ (.int .i64 (y))) := (below_set (by have := HRB.out; omega)).trans (below_set (by have := HRB.out; omega))
      exact (HSl.out.more (by omega)).below hbz (by have := HRB.out; omega)
    · exact grow_onI hgl4 ((below_set (by have := HRB.out; omega)).trans (below_set (by have := HRB.out; omega)))
  · clear HC
    clear hX2 hR2 HS2 hg2
    go_wp2_with fail
    have hRz := ((hR1.set 0 (.int .i64 3)).set 1 (.int .i64 0)).next (bnew _ (.cells #[.int .i64 3, .int .i64 0] 87))
    have s0 : (((w1.setCell ⟨rb, 0, none⟩ (.int .i64 3)).setCell ⟨rb, 1, none⟩ (.int .i64 0)).alloc (.cells #[.int .i64 3, .int .i64 0] 87)).cell? ⟨rb, 0, none⟩ = some (.int .i64 3) := hRz.cell 0
    have s1 : (((w1.setCell ⟨rb, 0, none⟩ (.int .i64 3)).setCell ⟨rb, 1, none⟩ (.int .i64 0)).alloc (.cells #[.int .i64 3, .int .i64 0] 87)).cell? ⟨rb, 1, none⟩ = some (.int .i64 0) := hRz.cell 1
    have hbz : Below w.heap.size w1 (((w1.setCell ⟨rb, 0, none⟩ (.int .i64 3)).setCell ⟨rb, 1, none⟩ (.int .i64 0)).alloc (.cells #[.int .i64 3, .int .i64 0] 87)) := ((below_set (by have := HRB.out; omega)).trans (below_set (by have := HRB.out; omega))).alloc (by simp; have := HRB.out; omega) _
    refine bodyPost_ret (v := .agg #[.int .i64 3, .int .i64 0]) (by simp [results, Tryd.results81, go_sem, s0, s1]) rfl ?_
    exact ⟨3, 0, rfl, by decide, (HS1.out.more (by omega)).below hbz (by have := HRB.out; omega), grow_onI hg1 hbz⟩
  · clear HC
    go_wp2_with fail
    generalize w1.alloc (.cells #[.int .i64 4, .int .i64 0] 87) = W2 at hX2 hR2 HS2 hg2 x0 x1 q0 q1 ⊢
    generalize w1.heap.size = xb at hX2 x0 x1 hrl hgl ⊢
    refine (pick_c g _ 9 _ HS2.out (by omega) (by omega) (by omega)).mono ?_
    rintro e w4 ⟨y, rfl, hy0, hy1, hs4, hb4⟩
    have hX4 := hX2.by_grown hb4 (fun e => by injection e; omega)
    have hR4 := hR2.by_grown hb4 (fun e => by injection e; omega)
    have hg4 := only_trans hg2 hb4
    have f4 := hX4.frozen 1
    have c4 : w4.cell? ⟨xb, 1, none⟩ = some (.int .i64 0) := hX4.cell 1
    have hX5 := hX4.set 1 (.int .i64 (y - 3))
    have hRl := hR4.far (show rb ≠ xb by omega) 1 (.int .i64 (y - 3))
    have x5 : (w4.setCell ⟨xb, 1, none⟩ (.int .i64 (y - 3))).cell? ⟨xb, 0, none⟩ = some (.int .i64 4) := hX5.cell 0
    have x6 : (w4.setCell ⟨xb, 1, none⟩ (.int .i64 (y - 3))).cell? ⟨xb, 1, none⟩ = some (.int .i64 (y - 3)) := hX5.cell 1
    have hbs : Below w.heap.size w4 (w4.setCell ⟨xb, 1, none⟩ (.int .i64 (y - 3))) := below_set (by have := HRB.out; omega)
    have hgl4 := grow_onI hg4 hbs
    have HSl := Lib.hid (hs4.below hbs (by have := HRB.out; omega))
    have q4 := hRl.frozen 0
    have q5 := hRl.frozen 1
    have r4 : (w4.setCell ⟨xb, 1, none⟩ (.int .i64 (y - 3))).cell? ⟨rb, 0, none⟩ = some (.int .i64 0) := hRl.cell 0
    have r5 : (w4.setCell ⟨xb, 1, none⟩ (.int .i64 (y - 3))).cell? ⟨rb, 1, none⟩ = some (.int .i64 0) := hRl.cell 1
    clear hX2 hR2 HS2 hg2 x0 x1 q0 q1 hR4 hg4 hs4 hb4 hbs hX4
    have hgx : g < w.heap.size := by have := HRB.out; omega
    go_wp2_with fail
    generalize (w4.setCell ⟨xb, 1, none⟩ (.int .i64 (y - 3))) = W5 at hX5 hRl x5 x6 hgl4 HSl q4 q5 r4 r5 ⊢
    refine (one_c g _ 20 _ HSl.out (by omega) (by omega) (by omega)).mono ?_
    rintro e w6 ⟨t, rfl, hs6, hb6⟩
    have hX6 := hX5.by_grown hb6 (fun e => by injection e; omega)
    have hR6 := hRl.by_grown hb6 (fun e => by injection e; omega)
    have hg6 := only_trans hgl4 hb6
    clear hX5 hRl x5 x6 hgl4 HSl q4 q5 hb6 f4 c4 r4 r5
    cases t with
    | false =>
      have hRl := hR6
      have hgl4 := hg6
      have HSl := Lib.hid hs6
      have x5 : w6.cell? ⟨xb, 0, none⟩ = some (.int .i64 4) := hX6.cell 0
      have x6 : w6.cell? ⟨xb, 1, none⟩ = some (.int .i64 (y - 3)) := hX6.cell 1
      have q4 := hRl.frozen 0
      have q5 := hRl.frozen 1
      have r4 : w6.cell? ⟨rb, 0, none⟩ = some (.int .i64 0) := hRl.cell 0
      have r5 : w6.cell? ⟨rb, 1, none⟩ = some (.int .i64 0) := hRl.cell 1
      go_wp2_with fail
      have hRz := (hRl.set 0 (.int .i64 4)).set 1 (.int .i64 (y - 3))
      have s0 : ((w6.setCell ⟨rb, 0, none⟩ (.int .i64 4)).setCell ⟨rb, 1, none⟩ (.int .i64 (y - 3))).cell? ⟨rb, 0, none⟩ = some (.int .i64 4) := by rw [hRz.cell 0]; simp
      have s1 : ((w6.setCell ⟨rb, 0, none⟩ (.int .i64 4)).setCell ⟨rb, 1, none⟩ (.int .i64 (y - 3))).cell? ⟨rb, 1, none⟩ = some (.int .i64 (y - 3)) := by rw [hRz.cell 1]; simp
      refine bodyPost_ret (v := .agg #[.int .i64 4, .int .i64 (y - 3)]) (by simp [results, Tryd.results81, go_sem, s0, s1]) rfl ?_
      refine ⟨4, y - 3, rfl, ?_, ?_, ?_⟩
      · rw [instrB_4]; simp; omega
      · have hbz : Below w.heap.size w6 ((w6.setCell ⟨rb, 0, none⟩ (.int .i64 4)).setCell ⟨rb, 1, none⟩ (.int .i64 (y - 3))) := (below_set (by have := HRB.out; omega)).trans (below_set (by have := HRB.out; omega))
        exact (HSl.out.more (by omega)).below hbz (by have := HRB.out; omega)
      · exact grow_onI hgl4 ((below_set (by have := HRB.out; omega)).trans (below_set (by have := HRB.out; omega)))
    | true =>
      have hb7 := bnew w6 (.cells #[.int .i64 1000000, .int .i64 (-1000000)] 2)
      have hX7 := hX6.next hb7
      have hR7 := hR6.next hb7
      have hg7 := grow_onI hg6 (hb7.mono hg6.size)
      have HAM := Lib.hid (among_c g (k + 2 + 2 + 2) (some ⟨w6.heap.size, 0, none⟩) 2 2 (w6.heap.size + 1) [1000000, -1000000] (w6.alloc (.cells #[.int .i64 1000000, .int .i64 (-1000000)] 2)) (hs6.below hb7 hs6.lt) (by omega) (row_two w6 _ _) rfl (by omega) (by omega) (fun b off e => by have := hs6.lt; injection e with e; injection e with e1 e2; omega))
      go_wp2_with fail
      refine HAM.out.mono ?_
      rintro e w8 ⟨z, rfl, hz, hs8, hb8⟩
      have hX8 := hX7.by_grown hb8 (fun e => by injection e; omega)
      have hR8 := hR7.by_grown hb8 (fun e => by injection e; omega)
      have hg8 := only_trans hg7 hb8
      have f8 := hX8.frozen 1
      have c8 : w8.cell? ⟨xb, 1, none⟩ = some (.int .i64 (y - 3)) := hX8.cell 1
      have hX9 := hX8.set 1 (.int .i64 (z))
      have hRl := hR8.far (show rb ≠ xb by omega) 1 (.int .i64 (z))
      have x5 : (w8.setCell ⟨xb, 1, none⟩ (.int .i64 (z))).cell? ⟨xb, 0, none⟩ = some (.int .i64 4) := hX9.cell 0
      have x6 : (w8.setCell ⟨xb, 1, none⟩ (.int .i64 (z))).cell? ⟨xb, 1, none⟩ = some (.int .i64 (z)) := hX9.cell 1
      have hbs : Below w.heap.size w8 (w8.setCell ⟨xb, 1, none⟩ (.int .i64 (z))) := below_set (by have := HRB.out; omega)
      have hgl4 := grow_onI hg8 hbs
      have HSl := Lib.hid (hs8.below hbs (by have := HRB.out; omega))
      have q4 := hRl.frozen 0
      have q5 := hRl.frozen 1
      have r4 : (w8.setCell ⟨xb, 1, none⟩ (.int .i64 (z))).cell? ⟨rb, 0, none⟩ = some (.int .i64 0) := hRl.cell 0
      have r5 : (w8.setCell ⟨xb, 1, none⟩ (.int .i64 (z))).cell? ⟨rb, 1, none⟩ = some (.int .i64 0) := hRl.cell 1
      clear hX6 hR6 hX7 hR7 hg7 hg6 HAM hb7 hs6 hX8 hR8 hb8 hs8 hbs
      go_wp2_with fail
      have hRz := (hRl.set 0 (.int .i64 4)).set 1 (.int .i64 (z))
      have s0 : (((w8.setCell ⟨xb, 1, none⟩ (.int .i64 (z))).setCell ⟨rb, 0, none⟩ (.int .i64 4)).setCell ⟨rb, 1, none⟩ (.int .i64 (z))).cell? ⟨rb, 0, none⟩ = some (.int .i64 4) := by rw [hRz.cell 0]; simp
      have s1 : (((w8.setCell ⟨xb, 1, none⟩ (.int .i64 (z))).setCell ⟨rb, 0, none⟩ (.int .i64 4)).setCell ⟨rb, 1, none⟩ (.int .i64 (z))).cell? ⟨rb, 1, none⟩ = some (.int .i64 (z)) := by rw [hRz.cell 1]; simp
      refine bodyPost_ret (v := .agg #[.int .i64 4, .int .i64 (z)]) (by simp [results, Tryd.results81, go_sem, s0, s1]) rfl ?_
      refine ⟨4, z, rfl, ?_, ?_, ?_⟩
      · rw [instrB_4]; rcases List.mem_cons.1 hz with rfl | hz; decide; obtain rfl := List.mem_singleton.1 hz; decide
      · have hbz : Below w.heap.size (w8.setCell ⟨xb, 1, none⟩ (.int .i64 (z))) (((w8.setCell ⟨xb, 1, none⟩ (.int .i64 (z))).setCell ⟨rb, 0, none⟩ (.int .i64 4)).setCell ⟨rb, 1, none⟩ (.int .i64 (z))) := (below_set (by have := HRB.out; omega)).trans (below_set (by have := HRB.out; omega))
        exact (HSl.out.more (by omega)).below hbz (by have := HRB.out; omega)
      · exact grow_onI hgl4 ((below_set (by have := HRB.out; omega)).trans (below_set (by have := HRB.out; omega)))
  · clear HC
    go_wp2_with fail
    generalize w1.alloc (.cells #[.int .i64 5, .int .i64 0] 87) = W2 at hX2 hR2 HS2 hg2 x0 x1 q0 q1 ⊢
    generalize w1.heap.size = xb at hX2 x0 x1 hrl hgl ⊢
    refine (l00Min_c2 (n + 1) 80 _).mono ?_
    rintro e w3 ⟨rfl, rfl⟩
    have hm1 : 1 ≤ min (n + 1) 80 := by omega
    have hm2 : min (n + 1) 80 ≤ 80 := by omega
    generalize min (n + 1) 80 = m at hm1 hm2 ⊢
    go_wp2_with fail
    refine (pick_c g _ m _ HS2.out (by omega) (by omega) (by omega)).mono ?_
    rintro e w4 ⟨y, rfl, hy0, hy1, hs4, hb4⟩
    have hX4 := hX2.by_grown hb4 (fun e => by injection e; omega)
    have hR4 := hR2.by_grown hb4 (fun e => by injection e; omega)
    have hg4 := only_trans hg2 hb4
    have f4 := hX4.frozen 1
    have c4 : w4.cell? ⟨xb, 1, none⟩ = some (.int .i64 0) := hX4.cell 1
    have hX5 := hX4.set 1 (.int .i64 (y))
    have hRl := hR4.far (show rb ≠ xb by omega) 1 (.int .i64 (y))
    have x5 : (w4.setCell ⟨xb, 1, none⟩ (.int .i64 (y))).cell? ⟨xb, 0, none⟩ = some (.int .i64 5) := hX5.cell 0
    have x6 : (w4.setCell ⟨xb, 1, none⟩ (.int .i64 (y))).cell? ⟨xb, 1, none⟩ = some (.int .i64 (y)) := hX5.cell 1
    have hbs : Below w.heap.size w4 (w4.setCell ⟨xb, 1, none⟩ (.int .i64 (y))) := below_set (by have := HRB.out; omega)
    have hgl4 := grow_onI hg4 hbs
    have HSl := Lib.hid (hs4.below hbs (by have := HRB.out; omega))
    have q4 := hRl.frozen 0
    have q5 := hRl.frozen 1
    have r4 : (w4.setCell ⟨xb, 1, none⟩ (.int .i64 (y))).cell? ⟨rb, 0, none⟩ = some (.int .i64 0) := hRl.cell 0
    have r5 : (w4.setCell ⟨xb, 1, none⟩ (.int .i64 (y))).cell? ⟨rb, 1, none⟩ = some (.int .i64 0) := hRl.cell 1
    clear hX2 hR2 HS2 hg2 x0 x1 q0 q1 hR4 hg4 hs4 hb4 hbs hX4
    go_wp2_with fail
    have hRz := (hRl.set 0 (.int .i64 5)).set 1 (.int .i64 (y))
    have s0 : (((w4.setCell ⟨xb, 1, none⟩ (.int .i64 (y))).setCell ⟨rb, 0, none⟩ (.int .i64 5)).setCell ⟨rb, 1, none⟩ (.int .i64 (y))).cell? ⟨rb, 0, none⟩ = some (.int .i64 5) := by rw [hRz.cell 0]; simp
    have s1 : (((w4.setCell ⟨xb, 1, none⟩ (.int .i64 (y))).setCell ⟨rb, 0, none⟩ (.int .i64 5)).setCell ⟨rb, 1, none⟩ (.int .i64 (y))).cell? ⟨rb, 1, none⟩ = some (.int .i64 (y)) := by rw [hRz.cell 1]; simp
    refine bodyPost_ret (v := .agg #[.int .i64 5, .int .i64 (y)]) (by simp [results, Tryd.results81, go_sem, s0, s1]) rfl ?_
    refine ⟨5, y, rfl, ?_, ?_, ?_⟩
    · rw [instrB_5]; simp; omega
    · have hbz : Below w.heap.size (w4.setCell ⟨xb, 1, none⟩ (.int .i64 (y))) (((w4.setCell ⟨xb, 1, none⟩ (.int .i64 (y))).setCell ⟨rb, 0, none⟩ (.int .i64 5)).setCell ⟨rb, 1, none⟩ (.int .i64 (y))) := (below_set (by have := HRB.out; omega)).trans (below_set (by have := HRB.out; omega))
      exact (HSl.out.more (by omega)).below hbz (by have := HRB.out; omega)
    · exact grow_onI hgl4 ((below_set (by have := HRB.out; omega)).trans (below_set (by have := HRB.out; omega)))
  · clear HC
    go_wp2_with fail
    generalize w1.alloc (.cells #[.int .i64 6, .int .i64 0] 87) = W2 at hX2 hR2 HS2 hg2 x0 x1 q0 q1 ⊢
    generalize w1.heap.size = xb at hX2 x0 x1 hrl hgl ⊢
    refine (l00Min_c2 (n + 1) 80 _).mono ?_
    rintro e w3 ⟨rfl, rfl⟩
    have hm1 : 1 ≤ min (n + 1) 80 := by omega
    have hm2 : min (n + 1) 80 ≤ 80 := by omega
    generalize min (n + 1) 80 = m at hm1 hm2 ⊢
    go_wp2_with fail
    refine (pick_c g _ m _ HS2.out (by omega) (by omega) (by omega)).mono ?_
    rintro e w4 ⟨y, rfl, hy0, hy1, hs4, hb4⟩
    have hX4 := hX2.by_grown hb4 (fun e => by injection e; omega)
    have hR4 := hR2.by_grown hb4 (fun e => by injection e; omega)
    have hg4 := only_trans hg2 hb4
    have f4 := hX4.frozen 1
    have c4 : w4.cell? ⟨xb, 1, none⟩ = some (.int .i64 0) := hX4.cell 1
    have hX5 := hX4.set 1 (.int .i64 (y))
    have hRl := hR4.far (show rb ≠ xb by omega) 1 (.int .i64 (y))
    have x5 : (w4.setCell ⟨xb, 1, none⟩ (.int .i64 (y))).cell? ⟨xb, 0, none⟩ = some (.int .i64 6) := hX5.cell 0
    have x6 : (w4.setCell ⟨xb, 1, none⟩ (.int .i64 (y))).cell? ⟨xb, 1, none⟩ = some (.int .i64 (y)) := hX5.cell 1
    have hbs : Below w.heap.size w4 (w4.setCell ⟨xb, 1, none⟩ (.int .i64 (y))) := below_set (by have := HRB.out; omega)
    have hgl4 := grow_onI hg4 hbs
    have HSl := Lib.hid (hs4.below hbs (by have := HRB.out; omega))
    have q4 := hRl.frozen 0
    have q5 := hRl.frozen 1
    have r4 : (w4.setCell ⟨xb, 1, none⟩ (.int .i64 (y))).cell? ⟨rb, 0, none⟩ = some (.int .i64 0) := hRl.cell 0
    have r5 : (w4.setCell ⟨xb, 1, none⟩ (.int .i64 (y))).cell? ⟨rb, 1, none⟩ = some (.int .i64 0) := hRl.cell 1
    clear hX2 hR2 HS2 hg2 x0 x1 q0 q1 hR4 hg4 hs4 hb4 hbs hX4
    go_wp2_with fail
    have hRz := (hRl.set 0 (.int .i64 6)).set 1 (.int .i64 (y))
    have s0 : (((w4.setCell ⟨xb, 1, none⟩ (.int .i64 (y))).setCell ⟨rb, 0, none⟩ (.int .i64 6)).setCell ⟨rb, 1, none⟩ (.int .i64 (y))).cell? ⟨rb, 0, none⟩ = some (.int .i64 6) := by rw [hRz.cell 0]; simp
    have s1 : (((w4.setCell ⟨xb, 1, none⟩ (.int .i64 (y))).setCell ⟨rb, 0, none⟩ (.int .i64 6)).setCell ⟨rb, 1, none⟩ (.int .i64 (y))).cell? ⟨rb, 1, none⟩ = some (.int .i64 (y)) := by rw [hRz.cell 1]; simp
    refine bodyPost_ret (v := .agg #[.int .i64 6, .int .i64 (y)]) (by simp [results, Tryd.results81, go_sem, s0, s1]) rfl ?_
    refine ⟨6, y, rfl, ?_, ?_, ?_⟩
    · rw [instrB_6]; simp; omega
    · have hbz : Below w.heap.size (w4.setCell ⟨xb, 1, none⟩ (.int .i64 (y))) (((w4.setCell ⟨xb, 1, none⟩ (.int .i64 (y))).setCell ⟨rb, 0, none⟩ (.int .i64 6)).setCell ⟨rb, 1, none⟩ (.int .i64 (y))) := (below_set (by have := HRB.out; omega)).trans (below_set (by have := HRB.out; omega))
      exact (HSl.out.more (by omega)).below hbz (by have := HRB.out; omega)
    · exact grow_onI hgl4 ((below_set (by have := HRB.out; omega)).trans (below_set (by have := HRB.out; omega)))
  · clear HC
    clear hX2 hR2 HS2 hg2
    go_wp2_with fail
    have hRz := ((hR1.set 0 (.int .i64 7)).set 1 (.int .i64 0)).next (bnew _ (.cells #[.int .i64 7, .int .i64 0] 87))
    have s0 : (((w1.setCell ⟨rb, 0, none⟩ (.int .i64 7)).setCell ⟨rb, 1, none⟩ (.int .i64 0)).alloc (.cells #[.int .i64 7, .int .i64 0] 87)).cell? ⟨rb, 0, none⟩ = some (.int .i64 7) := hRz.cell 0
    have s1 : (((w1.setCell ⟨rb, 0, none⟩ (.int .i64 7)).setCell ⟨rb, 1, none⟩ (.int .i64 0)).alloc (.cells #[.int .i64 7, .int .i64 0] 87)).cell? ⟨rb, 1, none⟩ = some (.int .i64 0) := hRz.cell 1
    have hbz : Below w.heap.size w1 (((w1.setCell ⟨rb, 0, none⟩ (.int .i64 7)).setCell ⟨rb, 1, none⟩ (.int .i64 0)).alloc (.cells #[.int .i64 7, .int .i64 0] 87)) := ((below_set (by have := HRB.out; omega)).trans (below_set (by have := HRB.out; omega))).alloc (by simp; have := HRB.out; omega) _
    refine bodyPost_ret (v := .agg #[.int .i64 7, .int .i64 0]) (by simp [results, Tryd.results81, go_sem, s0, s1]) rfl ?_
    exact ⟨7, 0, rfl, by decide, (HS1.out.more (by omega)).below hbz (by have := HRB.out; omega), grow_onI hg1 hbz⟩
  · clear HC
    clear hX2 hR2 HS2 hg2
    go_wp2_with fail
    have hRz := ((hR1.set 0 (.int .i64 8)).set 1 (.int .i64 0)).next (bnew _ (.cells #[.int .i64 8, .int .i64 0] 87))
    have s0 : (((w1.setCell ⟨rb, 0, none⟩ (.int .i64 8)).setCell ⟨rb, 1, none⟩ (.int .i64 0)).alloc (.cells #[.int .i64 8, .int .i64 0] 87)).cell? ⟨rb, 0, none⟩ = some (.int .i64 8) := hRz.cell 0
    have s1 : (((w1.setCell ⟨rb, 0, none⟩ (.int .i64 8)).setCell ⟨rb, 1, none⟩ (.int .i64 0)).alloc (.cells #[.int .i64 8, .int .i64 0] 87)).cell? ⟨rb, 1, none⟩ = some (.int .i64 0) := hRz.cell 1
    have hbz : Below w.heap.size w1 (((w1.setCell ⟨rb, 0, none⟩ (.int .i64 8)).setCell ⟨rb, 1, none⟩ (.int .i64 0)).alloc (.cells #[.int .i64 8, .int .i64 0] 87)) := ((below_set (by have := HRB.out; omega)).trans (below_set (by have := HRB.out; omega))).alloc (by simp; have := HRB.out; omega) _
    refine bodyPost_ret (v := .agg #[.int .i64 8, .int .i64 0]) (by simp [results, Tryd.results81, go_sem, s0, s1]) rfl ?_
    exact ⟨8, 0, rfl, by decide, (HS1.out.more (by omega)).below hbz (by have := HRB.out; omega), grow_onI hg1 hbz⟩
  · clear HC
    go_wp2_with fail
    generalize w1.alloc (.cells #[.int .i64 9, .int .i64 0] 87) = W2 at hX2 hR2 HS2 hg2 x0 x1 q0 q1 ⊢
    generalize w1.heap.size = xb at hX2 x0 x1 hrl hgl ⊢
    refine (pick_c g _ 4 _ HS2.out (by omega) (by omega) (by omega)).mono ?_
    rintro e w4 ⟨y, rfl, hy0, hy1, hs4, hb4⟩
    have hX4 := hX2.by_grown hb4 (fun e => by injection e; omega)
    have hR4 := hR2.by_grown hb4 (fun e => by injection e; omega)
    have hg4 := only_trans hg2 hb4
    have f4 := hX4.frozen 1
    have c4 : w4.cell? ⟨xb, 1, none⟩ = some (.int .i64 0) := hX4.cell 1
    have hX5 := hX4.set 1 (.int .i64 (y))
    have hRl := hR4.far (show rb ≠ xb by omega) 1 (.int .i64 (y))
    have x5 : (w4.setCell ⟨xb, 1, none⟩ (.int .i64 (y))).cell? ⟨xb, 0, none⟩ = some (.int .i64 9) := hX5.cell 0
    have x6 : (w4.setCell ⟨xb, 1, none⟩ (.int .i64 (y))).cell? ⟨xb, 1, none⟩ = some (.int .i64 (y)) := hX5.cell 1
    have hbs : Below w.heap.size w4 (w4.setCell ⟨xb, 1, none⟩ (.int .i64 (y))) := below_set (by have := HRB.out; omega)
    have hgl4 := grow_onI hg4 hbs
    have HSl := Lib.hid (hs4.below hbs (by have := HRB.out; omega))
    have q4 := hRl.frozen 0
    have q5 := hRl.frozen 1
    have r4 : (w4.setCell ⟨xb, 1, none⟩ (.int .i64 (y))).cell? ⟨rb, 0, none⟩ = some (.int .i64 0) := hRl.cell 0
    have r5 : (w4.setCell ⟨xb, 1, none⟩ (.int .i64 (y))).cell? ⟨rb, 1, none⟩ = some (.int .i64 0) := hRl.cell 1
    clear hX2 hR2 HS2 hg2 x0 x1 q0 q1 hR4 hg4 hs4 hb4 hbs hX4
    go_wp2_with fail
    have hRz := (hRl.set 0 (.int .i64 9)).set 1 (.int .i64 (y))
    have s0 : (((w4.setCell ⟨xb, 1, none⟩ (.int .i64 (y))).setCell ⟨rb, 0, none⟩ (.int .i64 9)).setCell ⟨rb, 1, none⟩ (.int .i64 (y))).cell? ⟨rb, 0, none⟩ = some (.int .i64 9) := by rw [hRz.cell 0]; simp
    have s1 : (((w4.setCell ⟨xb, 1, none⟩ (.int .i64 (y))).setCell ⟨rb, 0, none⟩ (.int .i64 9)).setCell ⟨rb, 1, none⟩ (.int .i64 (y))).cell? ⟨rb, 1, none⟩ = some (.int .i64 (y)) := by rw [hRz.cell 1]; simp
    refine bodyPost_ret (v := .agg #[.int .i64 9, .int .i64 (y)]) (by simp [results, Tryd.results81, go_sem, s0, s1]) rfl ?_
    refine ⟨9, y, rfl, ?_, ?_, ?_⟩
    · rw [instrB_9]; simp; omega
    · have hbz : Below w.heap.size (w4.setCell ⟨xb, 1, none⟩ (.int .i64 (y))) (((w4.setCell ⟨xb, 1, none⟩ (.int .i64 (y))).setCell ⟨rb, 0, none⟩ (.int .i64 9)).setCell ⟨rb, 1, none⟩ (.int .i64 (y))) := (below_set (by have := HRB.out; omega)).trans (below_set (by have := HRB.out; omega))
      exact (HSl.out.more (by omega)).below hbz (by have := HRB.out; omega)
    · exact grow_onI hgl4 ((below_set (by have := HRB.out; omega)).trans (below_set (by have := HRB.out; omega)))
  · clear HC
    clear hX2 hR2 HS2 hg2
    go_wp2_with fail
    have hRz := ((hR1.set 0 (.int .i64 10)).set 1 (.int .i64 0)).next (bnew _ (.cells #[.int .i64 10, .int .i64 0] 87))
    have s0 : (((w1.setCell ⟨rb, 0, none⟩ (.int .i64 10)).setCell ⟨rb, 1, none⟩ (.int .i64 0)).alloc (.cells #[.int .i64 10, .int .i64 0] 87)).cell? ⟨rb, 0, none⟩ = some (.int .i64 10) := hRz.cell 0
    have s1 : (((w1.setCell ⟨rb, 0, none⟩ (.int .i64 10)).setCell ⟨rb, 1, none⟩ (.int .i64 0)).alloc (.cells #[.int .i64 10, .int .i64 0] 87)).cell? ⟨rb, 1, none⟩ = some (.int .i64 0) := hRz.cell 1
    have hbz : Below w.heap.size w1 (((w1.setCell ⟨rb, 0, none⟩ (.int .i64 10)).setCell ⟨rb, 1, none⟩ (.int .i64 0)).alloc (.cells #[.int .i64 10, .int .i64 0] 87)) := ((below_set (by have := HRB.out; omega)).trans (below_set (by have := HRB.out; omega))).alloc (by simp; have := HRB.out; omega) _
    refine bodyPost_ret (v := .agg #[.int .i64 10, .int .i64 0]) (by simp [results, Tryd.results81, go_sem, s0, s1]) rfl ?_
    exact ⟨10, 0, rfl, by decide, (HS1.out.more (by omega)).below hbz (by have := HRB.out; omega), grow_onI hg1 hbz⟩
  · clear HC
    clear hX2 hR2 HS2 hg2
    go_wp2_with fail
    have hRz := ((hR1.set 0 (.int .i64 11)).set 1 (.int .i64 0)).next (bnew _ (.cells #[.int .i64 11, .int .i64 0] 87))
    have s0 : (((w1.setCell ⟨rb, 0, none⟩ (.int .i64 11)).setCell ⟨rb, 1, none⟩ (.int .i64 0)).alloc (.cells #[.int .i64 11, .int .i64 0] 87)).cell? ⟨rb, 0, none⟩ = some (.int .i64 11) := hRz.cell 0
    have s1 : (((w1.setCell ⟨rb, 0, none⟩ (.int .i64 11)).setCell ⟨rb, 1, none⟩ (.int .i64 0)).alloc (.cells #[.int .i64 11, .int .i64 0] 87)).cell? ⟨rb, 1, none⟩ = some (.int .i64 0) := hRz.cell 1
    have hbz : Below w.heap.size w1 (((w1.setCell ⟨rb, 0, none⟩ (.int .i64 11)).setCell ⟨rb, 1, none⟩ (.int .i64 0)).alloc (.cells #[.int .i64 11, .int .i64 0] 87)) := ((below_set (by have := HRB.out; omega)).trans (below_set (by have := HRB.out; omega))).alloc (by simp; have := HRB.out; omega) _
    refine bodyPost_ret (v := .agg #[.int .i64 11, .int .i64 0]) (by simp [results, Tryd.results81, go_sem, s0, s1]) rfl ?_
    exact ⟨11, 0, rfl, by decide, (HS1.out.more (by omega)).below hbz (by have := HRB.out; omega), grow_onI hg1 hbz⟩
end Go.Proofs.YtffkdidgfeknkaaDoor

/-! The model's drawing of valid code: l07DrawTidy, l07DrawOk. Conditions: fewer than a million choices before. -/
namespace Go.Proofs.YtffkdidgfeknkaaDoor
set_option linter.unusedVariables false
open Go.RowKit

/-- Valid instructions in a row of the call's own, and the source. -/
structure CodeS (wc : World) (g k m : Nat) (v : Value) (xs : List (Int × Int)) (W : World) : Prop where
  len : xs.length = m
  ok : ∀ x ∈ xs, instrB x.1 x.2 = true
  own : W.ownsRow wc.heap.size 87 2 v m (flatC xs)
  grow : wc.grownBy W (some g)
  gl : g < wc.heap.size
  src : Src W g k
section
variable {wc W W' Wa : World} {g k k' m m' : Nat} {v v' : Value} {xs ys : List (Int × Int)}
theorem CodeS.pick (h : CodeS wc g k m v xs W) (hg : W.grownBy W' (some g)) (hs : Src W' g k') : CodeS wc g k' m v xs W' :=
  ⟨h.len, h.ok, h.own.kept hg (.inr fun e => by have := (h.own.lt g e).1; have := h.gl; omega), only_trans h.grow hg, h.gl, hs⟩
theorem CodeS.keep (h : CodeS wc g k m v xs W) (hb : Below W.heap.size W W') : CodeS wc g k m v xs W' :=
  ⟨h.len, h.ok, own_below h.own hb, grow_onI h.grow (hb.mono h.grow.size), h.gl, h.src.below hb h.src.lt⟩
theorem CodeS.more (h : CodeS wc g k m v xs W) (hk : k ≤ k') : CodeS wc g k' m v xs W := ⟨h.len, h.ok, h.own, h.grow, h.gl, h.src.more hk⟩
theorem CodeS.app (h : CodeS wc g k m v xs W) (hb : Below W.heap.size W Wa) (hgrow : Wa.grownBy W' v.ownBlock) (hm : m + ys.length = m') (hy : ∀ x ∈ ys, instrB x.1 x.2 = true)
    (hown : W'.ownsRow wc.heap.size 87 2 v' m' (flatC xs ++ flatC ys)) : CodeS wc g k m' v' (xs ++ ys) W' := by
  have hbb : Below wc.heap.size W W' := (hb.mono h.grow.size).grown hgrow (Nat.le_trans h.grow.size hb.size) (fun j hj => (h.own.lt j hj).1)
  refine ⟨by rw [List.length_append, h.len, hm], fun x hx => ?_, by rw [flatC_app]; exact hown, grow_onI h.grow hbb, h.gl, h.src.below hbb h.gl⟩
  rcases List.mem_append.1 hx with q | q
  · exact h.ok x q
  · exact hy x q
end
/-- What is drawn: valid code in a row of the call's own. -/
def CodeQ (wc : World) (g k : Nat) : Ending → World → Prop := fun e w' => ∃ A c xs, e = .returned (.slice A xs.length c) ∧ codeB xs = true ∧ OwnC w' wc.heap.size w'.heap.size A xs.length c xs ∧ Src w' g k ∧ wc.grownBy w' (some g)
theorem CodeS.fin {wc W : World} {g k m : Nat} {A : Option Addr} {n c : Nat} {xs : List (Int × Int)} (h : CodeS wc g k m (.slice A n c) xs W) (hm : n = m) (h1 : 1 ≤ m) (h2 : m ≤ 80) : CodeQ wc g k (.returned (.slice A n c)) W := by
  subst hm
  have hl := h.len
  subst hl
  exact ⟨A, c, xs, rfl, decide_eq_true ⟨h1, h2, h.ok⟩, OwnC.of_own h.own rfl, h.src, h.grow⟩

set_option maxRecDepth 100000 in
set_option maxHeartbeats 8000000 in
theorem l07DrawTidy_c (g k : Nat) (w : World) (h : Src w g k) (hk : k ≤ 1000000) :
    Calls Tryd.prog 80 #[.pointer (some ⟨g, 0, none⟩)] w (CodeQ w g (k + 62)) := by
  obtain ⟨i0, hi, hz0, hz1, hz2⟩ := info_parts infoInstr
  have hglt := h.lt
  have hT0 : CodeS w g k 0 (.slice (some ⟨w.heap.size, 0, none⟩) 0 0) [] (w.alloc (.cells #[] 87)) :=
    ⟨rfl, (by intro x hx; cases hx), own_empty2 w _, World.grownBy_alloc w _ (some g), hglt, h.below (bnew w _) hglt⟩
  have HS := Lib.hid hT0.src
  clear h
  go_enter Tryd.func80, Tryd.ntmps80
  go_wp2_with fail
  generalize w.alloc (.cells #[] 87) = W0 at hT0 HS ⊢
  generalize (some ⟨w.heap.size, 0, none⟩ : Option Addr) = A0 at hT0 ⊢
  refine (pick_c g k 5 _ HS.out (by omega) (by omega) (by omega)).mono ?_
  rintro e w1 ⟨x, rfl, hx0, hx1, hs1, hb1⟩
  have HT1 := Lib.hid (hT0.pick hb1 hs1)
  clear hT0 HS hs1 hb1
  obtain ⟨N, hN⟩ : ∃ N : Nat, (N : Int) = 1 + x := ⟨(1 + x).toNat, by omega⟩
  have hN1 : 1 ≤ N := by omega
  have hN2 : N ≤ 5 := by omega
  have HN := Lib.hid hN
  clear hN
  go_wp2_with fail
  rw [← HN.out]
  clear HN hx0 hx1
  go_loopw [3, 5, 6, 7, 8, 9] (fun v i _ _ _ _ wr => ∃ (j : Nat) (A : Option Addr) (c : Nat) (xs : List (Int × Int)), v = .slice A (4 * j) c ∧ i = .int .i64 j ∧ j ≤ N ∧ Hid (CodeS w g (k + 2 + 12 * j) (4 * j) v xs wr)) (fun _ i _ _ _ _ _ => (N - intOf i).toNat)
  case atStart => exact ⟨0, A0, 0, [], rfl, rfl, Nat.zero_le _, HT1⟩
  case round =>
    clear HT1
    rename World => wr
    obtain ⟨j, A, c, xs, rfl, rfl, hj, hM⟩ := hrel
    by_cases hlt : j < N
    · have i3 : (j : Int) < (N : Int) := by omega
      have hM0 := hM.out
      clear hM
      have HM := Lib.hid hM0
      go_wp2_with fail
      refine (pick_c g _ 4 _ HM.out.src (by omega) (by omega) (by omega)).mono ?_
      rintro e w1 ⟨y1, rfl, a1, b1, hs1, hb1⟩
      have hM1 := hM0.pick hb1 hs1
      clear hM0 HM hs1 hb1
      have h6 : BlkIs (w1.alloc (.cells #[.int .i64 1, .int .i64 y1] 87)) w1.heap.size 87 #[.int .i64 1, .int .i64 y1] := blk_new _ _ _ _ rfl
      have hM2 := hM1.keep (bnew w1 (.cells #[.int .i64 1, .int .i64 y1] 87))
      have HS2 := Lib.hid hM2.src
      have l6 := hM1.src.lt
      clear hM1
      go_wp2_with fail
      generalize w1.alloc (.cells #[.int .i64 1, .int .i64 y1] 87) = w2 at h6 hM2 HS2 ⊢
      generalize w1.heap.size = b6 at h6 l6 ⊢
      refine (pick_c g _ 9 _ HS2.out (by omega) (by omega) (by omega)).mono ?_
      rintro e w3 ⟨y2, rfl, a2, b2, hs3, hb3⟩
      have hM3 := hM2.pick hb3 hs3
      have h63 := h6.by_grown hb3 (fun e => by injection e; omega)
      have h7 : BlkIs (w3.alloc (.cells #[.int .i64 0, .int .i64 (y2 - 2)] 87)) w3.heap.size 87 #[.int .i64 0, .int .i64 (y2 - 2)] := blk_new _ _ _ _ rfl
      have h64 := h63.next (bnew w3 (.cells #[.int .i64 0, .int .i64 (y2 - 2)] 87))
      have hM4 := hM3.keep (bnew w3 (.cells #[.int .i64 0, .int .i64 (y2 - 2)] 87))
      have HS4 := Lib.hid hM4.src
      have l7 := hM3.src.lt
      clear hM3 hM2 HS2 h6 h63 hs3 hb3
      go_wp2_with fail
      generalize w3.alloc (.cells #[.int .i64 0, .int .i64 (y2 - 2)] 87) = w4 at h7 h64 hM4 HS4 ⊢
      generalize w3.heap.size = b7 at h7 l7 ⊢
      refine (pick_c g _ 4 _ HS4.out (by omega) (by omega) (by omega)).mono ?_
      rintro e w5 ⟨y3, rfl, a3, b3, hs5, hb5⟩
      have hM5 := hM4.pick hb5 hs5
      have h65 := h64.by_grown hb5 (fun e => by injection e; omega)
      have h75 := h7.by_grown hb5 (fun e => by injection e; omega)
      have h8 : BlkIs (w5.alloc (.cells #[.int .i64 2, .int .i64 y3] 87)) w5.heap.size 87 #[.int .i64 2, .int .i64 y3] := blk_new _ _ _ _ rfl
      have h66 := h65.next (bnew w5 (.cells #[.int .i64 2, .int .i64 y3] 87))
      have h76 := h75.next (bnew w5 (.cells #[.int .i64 2, .int .i64 y3] 87))
      have hM6 := hM5.keep (bnew w5 (.cells #[.int .i64 2, .int .i64 y3] 87))
      have HS6 := Lib.hid hM6.src
      have l8 := hM5.src.lt
      clear hM5 hM4 HS4 h64 h65 h7 h75 hs5 hb5
      go_wp2_with fail
      generalize w5.alloc (.cells #[.int .i64 2, .int .i64 y3] 87) = w6 at h8 h66 h76 hM6 HS6 ⊢
      generalize w5.heap.size = b8 at h8 l8 ⊢
      refine (pick_c g _ ((N : Int) + 1) _ HS6.out (by omega) (by omega) (by omega)).mono ?_
      rintro e w7 ⟨y4, rfl, a4, b4, hs7, hb7⟩
      have hM7 := hM6.pick hb7 hs7
      have HS7 := Lib.hid hM7.src
      have h67 := h66.by_grown hb7 (fun e => by injection e; omega)
      have h77 := h76.by_grown hb7 (fun e => by injection e; omega)
      have h87 := h8.by_grown hb7 (fun e => by injection e; omega)
      clear hM6 HS6 h66 h76 h8 hs7 hb7
      go_wp2_with fail
      refine (pick_c g _ 6 _ HS7.out (by omega) (by omega) (by omega)).mono ?_
      rintro e w9 ⟨y5, rfl, a5, b5, hs9, hb9⟩
      have hM9 := (hM7.pick hb9 hs9).more (show _ ≤ k + 2 + 12 * (j + 1) by omega)
      have h69 := h67.by_grown hb9 (fun e => by injection e; omega)
      have h79 := h77.by_grown hb9 (fun e => by injection e; omega)
      have h89 := h87.by_grown hb9 (fun e => by injection e; omega)
      have c60 : w9.cell? ⟨b6, 0, none⟩ = some (.int .i64 (1)) := h69.cell 0
      have c61 : w9.cell? ⟨b6, 1, none⟩ = some (.int .i64 (y1)) := h69.cell 1
      have c70 : w9.cell? ⟨b7, 0, none⟩ = some (.int .i64 (0)) := h79.cell 0
      have c71 : w9.cell? ⟨b7, 1, none⟩ = some (.int .i64 (y2 - 2)) := h79.cell 1
      have c80 : w9.cell? ⟨b8, 0, none⟩ = some (.int .i64 (2)) := h89.cell 0
      have c81 : w9.cell? ⟨b8, 1, none⟩ = some (.int .i64 (y3)) := h89.cell 1
      clear hM7 HS7 h67 h77 h87 hs9 hb9 h69 h79 h89
      have hown := hM9.own
      have hsc := hM9.grow.size
      have HM := Lib.hid hM9
      have hjm : Int.tmod (j : Int) 4 = ((j % 4 : Nat) : Int) := by rw [Int.tmod_eq_emod_of_nonneg (by omega)]; rfl
      have hjl : ((j % 4 : Nat) : Int) < 4 := by omega
      have hjz : 0 ≤ ((j % 4 : Nat) : Int) := by omega
      have HC := Lib.hid (show y5 = 0 ∨ y5 = 1 ∨ y5 = 2 ∨ y5 = 3 ∨ y5 = 4 ∨ y5 = 5 by omega)
      clear hM9 a5 b5 l6 l7 l8
      rcases HC.out with rfl | rfl | rfl | rfl | rfl | rfl
      · clear HC
        have hbn := bnew w9 (.cells #[.int .i64 1, .int .i64 (y1), .int .i64 0, .int .i64 (y2 - 2), .int .i64 3, .int .i64 (0), .int .i64 2, .int .i64 (y3)] 87)
        go_wp2_with (at_builtin; refine wpList_append_sep rfl _ _ 43 rfl w.heap.size 87 i0 (.agg #[.int .i64 0, .int .i64 0]) 2 16 Tryd.underlying43 hi hz0 hz1 hz2 rfl (by decide) _ _ _ rfl (own_below hown hbn) ⟨w9.heap.size, 0, none⟩ 4 4 [.int .i64 1, .int .i64 (y1), .int .i64 0, .int .i64 (y2 - 2), .int .i64 3, .int .i64 (0), .int .i64 2, .int .i64 (y3)] rfl rfl (World.news_of_block (cs := #[.int .i64 1, .int .i64 (y1), .int .i64 0, .int .i64 (y2 - 2), .int .i64 3, .int .i64 (0), .int .i64 2, .int .i64 (y3)]) (blk_new w9 _ _ w9.heap.size rfl)) (by simp [Value.oneCell']) (by unfold maxLen; omega) (by omega) (by simp; omega) (by omega) ?_; intro g' cap' w10 hown10 hgrow10 hsep10)
        have hM10 := HM.out.app (ys := [(1, y1), (0, y2 - 2), (3, 0), (2, y3)]) hbn hgrow10 (m' := 4 * (j + 1)) (by simp; omega) (by
          intro q hq
          simp only [List.mem_cons, List.not_mem_nil, or_false] at hq
          rcases hq with rfl | rfl | rfl | rfl
          · show instrB 1 _ = true; rw [instrB_1]; simp; try omega
          · show instrB 0 _ = true; rw [instrB_0]; simp; try omega
          · show instrB 3 _ = true; rw [instrB_3]; simp; try omega
          · show instrB 2 _ = true; rw [instrB_2]; simp; try omega
          ) (v' := .slice (some ⟨g', 0, none⟩) (4 * (j + 1)) cap') hown10
        go_roundw
        case rel => exact ⟨j + 1, some ⟨g', 0, none⟩, cap', xs ++ [(1, y1), (0, y2 - 2), (3, 0), (2, y3)], by go_num, by go_num, by omega, hM10⟩
        case measure => simp [intOf]; omega
      · clear HC
        have hbn := bnew w9 (.cells #[.int .i64 1, .int .i64 (y1), .int .i64 4, .int .i64 (y2 - 2), .int .i64 6, .int .i64 (4 * y4), .int .i64 9, .int .i64 (((j % 4 : Nat) : Int))] 87)
        go_wp2_with (at_builtin; refine wpList_append_sep rfl _ _ 43 rfl w.heap.size 87 i0 (.agg #[.int .i64 0, .int .i64 0]) 2 16 Tryd.underlying43 hi hz0 hz1 hz2 rfl (by decide) _ _ _ rfl (own_below hown hbn) ⟨w9.heap.size, 0, none⟩ 4 4 [.int .i64 1, .int .i64 (y1), .int .i64 4, .int .i64 (y2 - 2), .int .i64 6, .int .i64 (4 * y4), .int .i64 9, .int .i64 (((j % 4 : Nat) : Int))] rfl rfl (World.news_of_block (cs := #[.int .i64 1, .int .i64 (y1), .int .i64 4, .int .i64 (y2 - 2), .int .i64 6, .int .i64 (4 * y4), .int .i64 9, .int .i64 (((j % 4 : Nat) : Int))]) (blk_new w9 _ _ w9.heap.size rfl)) (by simp [Value.oneCell']) (by unfold maxLen; omega) (by omega) (by simp; omega) (by omega) ?_; intro g' cap' w10 hown10 hgrow10 hsep10)
        have hM10 := HM.out.app (ys := [(1, y1), (4, y2 - 2), (6, 4 * y4), (9, ((j % 4 : Nat) : Int))]) hbn hgrow10 (m' := 4 * (j + 1)) (by simp; omega) (by
          intro q hq
          simp only [List.mem_cons, List.not_mem_nil, or_false] at hq
          rcases hq with rfl | rfl | rfl | rfl
          · show instrB 1 _ = true; rw [instrB_1]; simp; try omega
          · show instrB 4 _ = true; rw [instrB_4]; simp; try omega
          · show instrB 6 _ = true; rw [instrB_6]; simp; try omega
          · show instrB 9 _ = true; rw [instrB_9]; simp; try omega
          ) (v' := .slice (some ⟨g', 0, none⟩) (4 * (j + 1)) cap') hown10
        go_roundw
        case rel => exact ⟨j + 1, some ⟨g', 0, none⟩, cap', xs ++ [(1, y1), (4, y2 - 2), (6, 4 * y4), (9, ((j % 4 : Nat) : Int))], by go_num, by go_num, by omega, hM10⟩
        case measure => simp [intOf]; omega
      · clear HC
        have hbn := bnew w9 (.cells #[.int .i64 0, .int .i64 (y2 - 2), .int .i64 7, .int .i64 (0), .int .i64 2, .int .i64 (y3), .int .i64 9, .int .i64 (y3)] 87)
        go_wp2_with (at_builtin; refine wpList_append_sep rfl _ _ 43 rfl w.heap.size 87 i0 (.agg #[.int .i64 0, .int .i64 0]) 2 16 Tryd.underlying43 hi hz0 hz1 hz2 rfl (by decide) _ _ _ rfl (own_below hown hbn) ⟨w9.heap.size, 0, none⟩ 4 4 [.int .i64 0, .int .i64 (y2 - 2), .int .i64 7, .int .i64 (0), .int .i64 2, .int .i64 (y3), .int .i64 9, .int .i64 (y3)] rfl rfl (World.news_of_block (cs := #[.int .i64 0, .int .i64 (y2 - 2), .int .i64 7, .int .i64 (0), .int .i64 2, .int .i64 (y3), .int .i64 9, .int .i64 (y3)]) (blk_new w9 _ _ w9.heap.size rfl)) (by simp [Value.oneCell']) (by unfold maxLen; omega) (by omega) (by simp; omega) (by omega) ?_; intro g' cap' w10 hown10 hgrow10 hsep10)
        have hM10 := HM.out.app (ys := [(0, y2 - 2), (7, 0), (2, y3), (9, y3)]) hbn hgrow10 (m' := 4 * (j + 1)) (by simp; omega) (by
          intro q hq
          simp only [List.mem_cons, List.not_mem_nil, or_false] at hq
          rcases hq with rfl | rfl | rfl | rfl
          · show instrB 0 _ = true; rw [instrB_0]; simp; try omega
          · show instrB 7 _ = true; rw [instrB_7]; simp; try omega
          · show instrB 2 _ = true; rw [instrB_2]; simp; try omega
          · show instrB 9 _ = true; rw [instrB_9]; simp; try omega
          ) (v' := .slice (some ⟨g', 0, none⟩) (4 * (j + 1)) cap') hown10
        go_roundw
        case rel => exact ⟨j + 1, some ⟨g', 0, none⟩, cap', xs ++ [(0, y2 - 2), (7, 0), (2, y3), (9, y3)], by go_num, by go_num, by omega, hM10⟩
        case measure => simp [intOf]; omega
      · clear HC
        have hbn := bnew w9 (.cells #[.int .i64 0, .int .i64 (y2 - 2), .int .i64 1, .int .i64 (y1), .int .i64 8, .int .i64 (0), .int .i64 5, .int .i64 (4 * y4)] 87)
        go_wp2_with (at_builtin; refine wpList_append_sep rfl _ _ 43 rfl w.heap.size 87 i0 (.agg #[.int .i64 0, .int .i64 0]) 2 16 Tryd.underlying43 hi hz0 hz1 hz2 rfl (by decide) _ _ _ rfl (own_below hown hbn) ⟨w9.heap.size, 0, none⟩ 4 4 [.int .i64 0, .int .i64 (y2 - 2), .int .i64 1, .int .i64 (y1), .int .i64 8, .int .i64 (0), .int .i64 5, .int .i64 (4 * y4)] rfl rfl (World.news_of_block (cs := #[.int .i64 0, .int .i64 (y2 - 2), .int .i64 1, .int .i64 (y1), .int .i64 8, .int .i64 (0), .int .i64 5, .int .i64 (4 * y4)]) (blk_new w9 _ _ w9.heap.size rfl)) (by simp [Value.oneCell']) (by unfold maxLen; omega) (by omega) (by simp; omega) (by omega) ?_; intro g' cap' w10 hown10 hgrow10 hsep10)
        have hM10 := HM.out.app (ys := [(0, y2 - 2), (1, y1), (8, 0), (5, 4 * y4)]) hbn hgrow10 (m' := 4 * (j + 1)) (by simp; omega) (by
          intro q hq
          simp only [List.mem_cons, List.not_mem_nil, or_false] at hq
          rcases hq with rfl | rfl | rfl | rfl
          · show instrB 0 _ = true; rw [instrB_0]; simp; try omega
          · show instrB 1 _ = true; rw [instrB_1]; simp; try omega
          · show instrB 8 _ = true; rw [instrB_8]; simp; try omega
          · show instrB 5 _ = true; rw [instrB_5]; simp; try omega
          ) (v' := .slice (some ⟨g', 0, none⟩) (4 * (j + 1)) cap') hown10
        go_roundw
        case rel => exact ⟨j + 1, some ⟨g', 0, none⟩, cap', xs ++ [(0, y2 - 2), (1, y1), (8, 0), (5, 4 * y4)], by go_num, by go_num, by omega, hM10⟩
        case measure => simp [intOf]; omega
      · clear HC
        have hbn := bnew w9 (.cells #[.int .i64 1, .int .i64 (y1), .int .i64 10, .int .i64 (0), .int .i64 0, .int .i64 (y2 - 2), .int .i64 2, .int .i64 (y3)] 87)
        go_wp2_with (at_builtin; refine wpList_append_sep rfl _ _ 43 rfl w.heap.size 87 i0 (.agg #[.int .i64 0, .int .i64 0]) 2 16 Tryd.underlying43 hi hz0 hz1 hz2 rfl (by decide) _ _ _ rfl (own_below hown hbn) ⟨w9.heap.size, 0, none⟩ 4 4 [.int .i64 1, .int .i64 (y1), .int .i64 10, .int .i64 (0), .int .i64 0, .int .i64 (y2 - 2), .int .i64 2, .int .i64 (y3)] rfl rfl (World.news_of_block (cs := #[.int .i64 1, .int .i64 (y1), .int .i64 10, .int .i64 (0), .int .i64 0, .int .i64 (y2 - 2), .int .i64 2, .int .i64 (y3)]) (blk_new w9 _ _ w9.heap.size rfl)) (by simp [Value.oneCell']) (by unfold maxLen; omega) (by omega) (by simp; omega) (by omega) ?_; intro g' cap' w10 hown10 hgrow10 hsep10)
        have hM10 := HM.out.app (ys := [(1, y1), (10, 0), (0, y2 - 2), (2, y3)]) hbn hgrow10 (m' := 4 * (j + 1)) (by simp; omega) (by
          intro q hq
          simp only [List.mem_cons, List.not_mem_nil, or_false] at hq
          rcases hq with rfl | rfl | rfl | rfl
          · show instrB 1 _ = true; rw [instrB_1]; simp; try omega
          · show instrB 10 _ = true; rw [instrB_10]; simp; try omega
          · show instrB 0 _ = true; rw [instrB_0]; simp; try omega
          · show instrB 2 _ = true; rw [instrB_2]; simp; try omega
          ) (v' := .slice (some ⟨g', 0, none⟩) (4 * (j + 1)) cap') hown10
        go_roundw
        case rel => exact ⟨j + 1, some ⟨g', 0, none⟩, cap', xs ++ [(1, y1), (10, 0), (0, y2 - 2), (2, y3)], by go_num, by go_num, by omega, hM10⟩
        case measure => simp [intOf]; omega
      · clear HC
        have hbn := bnew w9 (.cells #[.int .i64 1, .int .i64 (y1), .int .i64 0, .int .i64 (y2 - 2), .int .i64 3, .int .i64 (0), .int .i64 6, .int .i64 (4 * y4)] 87)
        go_wp2_with (at_builtin; refine wpList_append_sep rfl _ _ 43 rfl w.heap.size 87 i0 (.agg #[.int .i64 0, .int .i64 0]) 2 16 Tryd.underlying43 hi hz0 hz1 hz2 rfl (by decide) _ _ _ rfl (own_below hown hbn) ⟨w9.heap.size, 0, none⟩ 4 4 [.int .i64 1, .int .i64 (y1), .int .i64 0, .int .i64 (y2 - 2), .int .i64 3, .int .i64 (0), .int .i64 6, .int .i64 (4 * y4)] rfl rfl (World.news_of_block (cs := #[.int .i64 1, .int .i64 (y1), .int .i64 0, .int .i64 (y2 - 2), .int .i64 3, .int .i64 (0), .int .i64 6, .int .i64 (4 * y4)]) (blk_new w9 _ _ w9.heap.size rfl)) (by simp [Value.oneCell']) (by unfold maxLen; omega) (by omega) (by simp; omega) (by omega) ?_; intro g' cap' w10 hown10 hgrow10 hsep10)
        have hM10 := HM.out.app (ys := [(1, y1), (0, y2 - 2), (3, 0), (6, 4 * y4)]) hbn hgrow10 (m' := 4 * (j + 1)) (by simp; omega) (by
          intro q hq
          simp only [List.mem_cons, List.not_mem_nil, or_false] at hq
          rcases hq with rfl | rfl | rfl | rfl
          · show instrB 1 _ = true; rw [instrB_1]; simp; try omega
          · show instrB 0 _ = true; rw [instrB_0]; simp; try omega
          · show instrB 3 _ = true; rw [instrB_3]; simp; try omega
          · show instrB 6 _ = true; rw [instrB_6]; simp; try omega
          ) (v' := .slice (some ⟨g', 0, none⟩) (4 * (j + 1)) cap') hown10
        go_roundw
        case rel => exact ⟨j + 1, some ⟨g', 0, none⟩, cap', xs ++ [(1, y1), (0, y2 - 2), (3, 0), (6, 4 * y4)], by go_num, by go_num, by omega, hM10⟩
        case measure => simp [intOf]; omega
    · obtain rfl : j = N := by omega
      have i3 : ¬ (j : Int) < (j : Int) := by omega
      have hM0 := hM.out
      have hown := hM0.own
      have hsc := hM0.grow.size
      have HM := Lib.hid hM0
      clear hM hM0
      have hbn := bnew wr (.cells #[.int .i64 11, .int .i64 0] 87)
      go_wp2_with (at_builtin; refine wpList_append_sep rfl _ _ 43 rfl w.heap.size 87 i0 (.agg #[.int .i64 0, .int .i64 0]) 2 16 Tryd.underlying43 hi hz0 hz1 hz2 rfl (by decide) _ _ _ rfl (own_below hown hbn) ⟨wr.heap.size, 0, none⟩ 1 1 [.int .i64 11, .int .i64 0] rfl rfl (World.news_of_block (cs := #[.int .i64 11, .int .i64 0]) (blk_new wr _ _ wr.heap.size rfl)) (by simp [Value.oneCell']) (by unfold maxLen; omega) (by omega) (by simp; omega) (by omega) ?_; intro g' cap' w10 hown10 hgrow10 hsep10)
      have hM10 := HM.out.app (ys := [(11, 0)]) hbn hgrow10 (m' := 4 * j + 1) (by simp) (by intro q hq; obtain rfl := List.mem_singleton.1 hq; rfl) (v' := .slice (some ⟨g', 0, none⟩) (4 * j + 1) cap') hown10
      go_ret
      exact (hM10.more (k' := k + 62) (by omega)).fin rfl (by omega) (by omega)

set_option maxRecDepth 100000 in
set_option maxHeartbeats 8000000 in
theorem l07DrawOk_c (g k : Nat) (w : World) (h : Src w g k) (hk : k ≤ 900000) :
    Calls Tryd.prog 46 #[.pointer (some ⟨g, 0, none⟩)] w (CodeQ w g (k + 700)) := by
  obtain ⟨i0, hi, hz0, hz1, hz2⟩ := info_parts infoInstr
  have hglt := h.lt
  have HS := Lib.hid h
  clear h
  go_enter Tryd.func46, Tryd.ntmps46
  go_wp2_with fail
  refine (one_c g k 3 _ HS.out (by omega) (by omega) (by omega)).mono ?_
  rintro e w1 ⟨t, rfl, hs1, hb1⟩
  have HS1 := Lib.hid hs1
  clear hs1 HS
  cases t with
  | false =>
    go_wp2_with fail
    refine (l07DrawTidy_c g (k + 2) w1 HS1.out (by omega)).mono ?_
    rintro e w2 ⟨A, c, xs, rfl, hc, ho, hs2, hg2⟩
    go_wp2_with fail
    go_ret
    exact ⟨A, c, xs, rfl, hc, ho.less hb1.size, hs2.more (by omega), only_trans hb1 hg2⟩
  | true =>
    have hT0 : CodeS w g (k + 2) 0 (.slice (some ⟨w1.heap.size, 0, none⟩) 0 0) [] (w1.alloc (.cells #[] 87)) :=
      ⟨rfl, (by intro x hx; cases hx), own_less (own_empty2 w1 _) hb1.size, only_trans hb1 (World.grownBy_alloc w1 _ (some g)), hglt, HS1.out.below (bnew w1 _) HS1.out.lt⟩
    have HS2 := Lib.hid hT0.src
    go_wp2_with fail
    generalize w1.alloc (.cells #[] 87) = W0 at hT0 HS2 ⊢
    generalize (some ⟨w1.heap.size, 0, none⟩ : Option Addr) = A0 at hT0 ⊢
    refine (pick_c g _ 9 _ HS2.out (by omega) (by omega) (by omega)).mono ?_
    rintro e w2 ⟨x, rfl, hx0, hx1, hs2, hb2⟩
    have hT2 := hT0.pick hb2 hs2
    have HS3 := Lib.hid hT2.src
    clear hT0 HS1 HS2 hs2 hb2 hb1
    go_wp2_with fail
    refine (one_c g _ 14 _ HS3.out (by omega) (by omega) (by omega)).mono ?_
    rintro e w3 ⟨t, rfl, hs3, hb3⟩
    have HT3 := Lib.hid (hT2.pick hb3 hs3)
    clear hT2 HS3 hs3 hb3
    cases t with
    | false =>
      obtain ⟨N, hN⟩ : ∃ N : Nat, (N : Int) = 1 + x := ⟨(1 + x).toNat, by omega⟩
      have hN1 : 1 ≤ N := by omega
      have hN2 : N ≤ 80 := by omega
      have HN := Lib.hid hN
      clear hN
      go_wp2_with fail
      rw [← HN.out]
      clear HN hx0 hx1
      go_loopw [3, 5] (fun v i wr => ∃ (j : Nat) (A : Option Addr) (c : Nat) (xs : List (Int × Int)), v = .slice A j c ∧ i = .int .i64 j ∧ j ≤ N ∧ Hid (CodeS w g (k + 6 + 8 * j) j v xs wr)) (fun _ i _ => (N - intOf i).toNat)
      case atStart => exact ⟨0, A0, 0, [], rfl, rfl, Nat.zero_le _, HT3⟩
      case round =>
        clear HT3
        rename World => wr
        obtain ⟨j, A, c, xs, rfl, rfl, hj, hM⟩ := hrel
        by_cases hlt : j < N
        · have i3 : (j : Int) < (N : Int) := by omega
          go_wp2_with fail
          refine (l07DrawInstr_c g _ (N : Int) _ hM.out.src (by omega) (by omega) (by omega)).mono ?_
          rintro e w4 ⟨a, b, rfl, hab, hs4, hb4⟩
          have hM4 := hM.out.pick hb4 hs4
          have hown := hM4.own
          have hsc := hM4.grow.size
          have HM := Lib.hid hM4
          clear hM hM4 hs4 hb4
          have hbn := bnew w4 (.cells #[.int .i64 a, .int .i64 b] 87)
          go_wp2_with (at_builtin; refine wpList_append_sep rfl _ _ 43 rfl w.heap.size 87 i0 (.agg #[.int .i64 0, .int .i64 0]) 2 16 Tryd.underlying43 hi hz0 hz1 hz2 rfl (by decide) _ _ _ rfl (own_below hown hbn) ⟨w4.heap.size, 0, none⟩ 1 1 [.int .i64 a, .int .i64 b] rfl rfl (World.news_of_block (cs := #[.int .i64 a, .int .i64 b]) (blk_new w4 _ _ w4.heap.size rfl)) (by simp [Value.oneCell']) (by unfold maxLen; omega) (by omega) (by simp; omega) (by omega) ?_; intro g' cap' w10 hown10 hgrow10 hsep10)
          have hM10 := HM.out.app (ys := [(a, b)]) hbn hgrow10 (m' := j + 1) (by simp) (by intro q hq; obtain rfl := List.mem_singleton.1 hq; exact hab) (v' := .slice (some ⟨g', 0, none⟩) (j + 1) cap') hown10
          go_roundw
          case rel => exact ⟨j + 1, some ⟨g', 0, none⟩, cap', xs ++ [(a, b)], by go_num, by go_num, by omega, hM10.more (by omega)⟩
          case measure => simp [intOf]; omega
        · obtain rfl : j = N := by omega
          have i3 : ¬ (j : Int) < (j : Int) := by omega
          go_wp2_with fail
          go_ret
          exact (hM.out.more (k' := k + 700) (by omega)).fin rfl (by omega) (by omega)
    | true =>
      obtain ⟨N, hN⟩ : ∃ N : Nat, (N : Int) = 80 := ⟨80, rfl⟩
      have hN1 : 1 ≤ N := by omega
      have hN2 : N ≤ 80 := by omega
      have HN := Lib.hid hN
      clear hN
      go_wp2_with fail
      rw [← HN.out]
      clear HN hx0 hx1
      go_loopw [3, 5] (fun v i wr => ∃ (j : Nat) (A : Option Addr) (c : Nat) (xs : List (Int × Int)), v = .slice A j c ∧ i = .int .i64 j ∧ j ≤ N ∧ Hid (CodeS w g (k + 6 + 8 * j) j v xs wr)) (fun _ i _ => (N - intOf i).toNat)
      case atStart => exact ⟨0, A0, 0, [], rfl, rfl, Nat.zero_le _, HT3⟩
      case round =>
        clear HT3
        rename World => wr
        obtain ⟨j, A, c, xs, rfl, rfl, hj, hM⟩ := hrel
        by_cases hlt : j < N
        · have i3 : (j : Int) < (N : Int) := by omega
          go_wp2_with fail
          refine (l07DrawInstr_c g _ (N : Int) _ hM.out.src (by omega) (by omega) (by omega)).mono ?_
          rintro e w4 ⟨a, b, rfl, hab, hs4, hb4⟩
          have hM4 := hM.out.pick hb4 hs4
          have hown := hM4.own
          have hsc := hM4.grow.size
          have HM := Lib.hid hM4
          clear hM hM4 hs4 hb4
          have hbn := bnew w4 (.cells #[.int .i64 a, .int .i64 b] 87)
          go_wp2_with (at_builtin; refine wpList_append_sep rfl _ _ 43 rfl w.heap.size 87 i0 (.agg #[.int .i64 0, .int .i64 0]) 2 16 Tryd.underlying43 hi hz0 hz1 hz2 rfl (by decide) _ _ _ rfl (own_below hown hbn) ⟨w4.heap.size, 0, none⟩ 1 1 [.int .i64 a, .int .i64 b] rfl rfl (World.news_of_block (cs := #[.int .i64 a, .int .i64 b]) (blk_new w4 _ _ w4.heap.size rfl)) (by simp [Value.oneCell']) (by unfold maxLen; omega) (by omega) (by simp; omega) (by omega) ?_; intro g' cap' w10 hown10 hgrow10 hsep10)
          have hM10 := HM.out.app (ys := [(a, b)]) hbn hgrow10 (m' := j + 1) (by simp) (by intro q hq; obtain rfl := List.mem_singleton.1 hq; exact hab) (v' := .slice (some ⟨g', 0, none⟩) (j + 1) cap') hown10
          go_roundw
          case rel => exact ⟨j + 1, some ⟨g', 0, none⟩, cap', xs ++ [(a, b)], by go_num, by go_num, by omega, hM10.more (by omega)⟩
          case measure => simp [intOf]; omega
        · obtain rfl : j = N := by omega
          have i3 : ¬ (j : Int) < (j : Int) := by omega
          go_wp2_with fail
          go_ret
          exact (hM.out.more (k' := k + 700) (by omega)).fin rfl (by omega) (by omega)
end Go.Proofs.YtffkdidgfeknkaaDoor

/-! Lists of lists of numbers: what one that came in reads as; how the law counts and compares them. Conditions: at most 2^20 rows and numbers. -/
namespace Go.Proofs.YtffkdidgfeknkaaDoor
set_option linter.unusedVariables false
open Go.RowKit Go.ChangeShapes Go.WideShapes Go.Deep Go.Joins

/-- Rows side by side where a slice's value leads, below block B. -/
def InLL (w : World) (B : Nat) (A : Option Addr) (n : Nat) (xs : List (List Int)) : Prop := xs.length = n ∧ ∀ j x, xs[j]? = some x → ∃ b off, A = some ⟨b, off, none⟩ ∧ b < B ∧ ∃ A0 n0 c0, w.cell? ⟨b, off + j, none⟩ = some (.slice A0 n0 c0) ∧ InL w B A0 n0 x
section
variable {w w' : World} {lo hi B B' : Nat} {A : Option Addr} {n : Nat} {xs : List (List Int)}
theorem InLL.next (h : InLL w B A n xs) (hb : Below B' w w') (hB : B ≤ B') : InLL w' B A n xs := ⟨h.1, fun j x hj => by
  obtain ⟨b, off, e, hlt, A0, n0, c0, hc, hl⟩ := h.2 j x hj
  exact ⟨b, off, e, hlt, A0, n0, c0, (hb.cell (p := ⟨b, off + j, none⟩) (by show b < B'; omega)).trans hc, hl.next hb hB⟩⟩
theorem InLL.more (h : InLL w B A n xs) (hB : B ≤ B') : InLL w B' A n xs := ⟨h.1, fun j x hj => by
  obtain ⟨b, off, e, hlt, A0, n0, c0, hc, hl⟩ := h.2 j x hj
  exact ⟨b, off, e, by omega, A0, n0, c0, hc, hl.more hB⟩⟩
theorem InLL.drew (h : InLL w B A n xs) : InLL w.drew B A n xs := h
theorem InLL.out (h : InLL w B A n xs) (ho : Out lo hi w w') (hB : B ≤ lo) (hs : B ≤ w.heap.size) : InLL w' B A n xs := h.next (ho.below hB hs) (Nat.le_refl _)
theorem InLL.call {w1 : World} (h : InLL w B A n xs) (hB : B ≤ w.heap.size) (hb : Below w.drew.heap.size w.drew w1) : InLL w1 B A n xs := h.next (bstep hb) hB
theorem InLL.at_ (h : InLL w B A n xs) {k : Nat} (hk : k < n) : ∃ b off x, A = some ⟨b, off, none⟩ ∧ b < B ∧ xs[k]? = some x ∧ ∃ A0 n0 c0, w.cell? ⟨b, off + k, none⟩ = some (.slice A0 n0 c0) ∧ InL w B A0 n0 x := by
  have hk' : k < xs.length := by rw [h.1]; exact hk
  obtain ⟨b, off, e, hlt, hs⟩ := h.2 k xs[k] (List.getElem?_eq_getElem hk')
  exact ⟨b, off, xs[k], e, hlt, List.getElem?_eq_getElem hk', hs⟩
end
def totLL (xs : List (List Int)) : Nat := (xs.map List.length).sum
theorem totLL_succ {xs : List (List Int)} {k : Nat} {x : List Int} (h : xs[k]? = some x) : totLL (xs.take (k + 1)) = totLL (xs.take k) + x.length := by
  unfold totLL; rw [List.take_add_one, h]; simp
theorem totLL_take (xs : List (List Int)) (k : Nat) : totLL (xs.take k) ≤ totLL xs := by
  have h : totLL xs = totLL (xs.take k) + totLL (xs.drop k) := by
    unfold totLL
    have := congrArg List.sum (List.take_append_drop k (xs.map List.length))
    rw [List.sum_append, ← List.map_take, ← List.map_drop] at this
    exact this.symm
  omega
theorem totLL_mem {xs : List (List Int)} {x : List Int} (h : x ∈ xs) : x.length ≤ totLL xs := by
  obtain ⟨k, hk⟩ := List.getElem?_of_mem h
  have h1 := totLL_succ hk
  have h2 := totLL_take xs (k + 1)
  omega
theorem totLL_cons (t : List Int) (ts : List (List Int)) : totLL (t :: ts) = t.length + totLL ts := by simp [totLL]
theorem fitsLL_of {xs : List (List Int)} (h : totLL xs ≤ maxLen) : ∀ x ∈ xs, x.length ≤ maxLen := fun x hx => Nat.le_trans (totLL_mem hx) h

/-! What came in. -/
section
variable {H : Type} {enc : TypeId × Value → H} {w : World} {held : Bool}
theorem cellsRow : Tryd.prog.cellsOf 24 = 1 := by kernel_rfl
end

end Go.Proofs.YtffkdidgfeknkaaDoor

/-! A rising function of numbers. No conditions. -/
namespace Go.Proofs.YtffkdidgfeknkaaDoor
theorem mono_le {f : Nat → Nat} {n : Nat} (h : ∀ i, i < n → f i ≤ f (i + 1)) : ∀ {i j : Nat}, i ≤ j → j ≤ n → f i ≤ f j
  | i, 0, hij, _ => by have : i = 0 := by omega
                       subst this; exact Nat.le_refl _
  | i, j + 1, hij, hj => by
    by_cases e : i = j + 1
    · subst e; exact Nat.le_refl _
    · exact Nat.le_trans (mono_le h (by omega) (by omega)) (h j (by omega))
end Go.Proofs.YtffkdidgfeknkaaDoor

/-! Lists of lists of numbers in memory of one's own, each row apart from the others; the law's copy; the marks that the law writes and reads again. Conditions: at most 2^20 rows and numbers. -/
namespace Go.Proofs.YtffkdidgfeknkaaDoor
set_option linter.unusedVariables false
open Go.RowKit

/-- What lies at the places from f on, row by row. -/
def PartLL (w : World) (xs : List Value) (f : Nat → Nat) (j : Nat) (t : List Int) : Prop := ∃ A0 n0 c0, xs[j]? = some (.slice A0 n0 c0) ∧ OwnL w (f j) (f (j + 1)) A0 n0 c0 t
def OwnLL (w : World) (lo hi : Nat) (A : Option Addr) (n c : Nat) (ts : List (List Int)) : Prop :=
  ts.length = n ∧ hi ≤ w.heap.size ∧ ∃ (xs : List Value) (f : Nat → Nat), w.ownsRow lo 24 1 (.slice A n c) n xs ∧ (∀ k, (Value.slice A n c).ownBlock = some k → k < hi ∧ (k < f 0 ∨ f n ≤ k)) ∧ lo ≤ f 0 ∧ (∀ i, i < n → f i ≤ f (i + 1)) ∧ f n ≤ hi ∧ ∀ j t, ts[j]? = some t → PartLL w xs f j t
theorem PartLL.next {w w' : World} {xs : List Value} {f : Nat → Nat} {j : Nat} {t : List Int} (h : PartLL w xs f j t) (hb : Below w.heap.size w w') : PartLL w' xs f j t := by
  obtain ⟨A0, n0, c0, q, k0⟩ := h
  exact ⟨A0, n0, c0, q, k0.next hb⟩
theorem PartLL.out {w w' : World} {xs : List Value} {f : Nat → Nat} {j lo' hi' : Nat} {t : List Int} (h : PartLL w xs f j t) (ho : Out lo' hi' w w') (hd : hi' ≤ f j ∨ f (j + 1) ≤ lo') : PartLL w' xs f j t := by
  obtain ⟨A0, n0, c0, q, k0⟩ := h
  exact ⟨A0, n0, c0, q, k0.out ho hd⟩
section
variable {w w' : World} {lo hi lo' hi' : Nat} {A : Option Addr} {n c : Nat} {ts : List (List Int)}
theorem row_outLL {g : Nat} {xs : List Value} (h3 : w.ownsRow lo 24 1 (.slice (some ⟨g, 0, none⟩) n c) n xs) (ho : Out lo' hi' w w') (hg : g < lo' ∨ hi' ≤ g) : w'.ownsRow lo 24 1 (.slice (some ⟨g, 0, none⟩) n c) n xs := by
  refine ⟨h3.1, ?_⟩
  rcases h3.2 with h' | ⟨g', cap, cur, k1, k2, k3, k4⟩
  · exact .inl h'
  · refine .inr ⟨g', cap, cur, k1, k2, ?_, k4⟩
    have e : g = g' := by injection k1 with e1; injection e1 with e2; injection e2
    subst e
    have hlt : g < w.heap.size := (h3.lt g rfl).2
    rw [ho.block g (by omega) (by omega)]
    exact k3
theorem OwnLL.next (h : OwnLL w lo hi A n c ts) (hb : Below w.heap.size w w') : OwnLL w' lo hi A n c ts := by
  obtain ⟨h1, h2, xs, f, h3, h4, h5, h6, h7, h8⟩ := h
  exact ⟨h1, Nat.le_trans h2 hb.size, xs, f, own_below h3 hb, h4, h5, h6, h7, fun j t hj => (h8 j t hj).next hb⟩
theorem OwnLL.drew (h : OwnLL w lo hi A n c ts) : OwnLL w.drew lo hi A n c ts := h
theorem OwnLL.out (h : OwnLL w lo hi A n c ts) (ho : Out lo' hi' w w') (hd : hi' ≤ lo ∨ hi ≤ lo') : OwnLL w' lo hi A n c ts := by
  obtain ⟨h1, h2, xs, f, h3, h4, h5, h6, h7, h8⟩ := h
  have hf : f 0 ≤ f n := mono_le h6 (Nat.zero_le _) (Nat.le_refl _)
  refine ⟨h1, Nat.le_trans h2 ho.size, xs, f, ⟨h3.1, ?_⟩, h4, h5, h6, h7, fun j t hj => ?_⟩
  · rcases h3.2 with h' | ⟨g, cap, cur, k1, k2, k3, k4⟩
    · exact .inl h'
    · refine .inr ⟨g, cap, cur, k1, k2, ?_, k4⟩
      have hg := (h4 g (by rw [k1]; rfl)).1
      have hgl := (h3.lt g (by rw [k1]; rfl)).1
      rw [ho.block g (by omega) (by omega)]
      exact k3
  · have hjl : j < ts.length := (List.getElem?_eq_some_iff.1 hj).1
    have ha : f 0 ≤ f j := mono_le h6 (Nat.zero_le _) (by omega)
    have hb : f (j + 1) ≤ f n := mono_le h6 (by omega) (Nat.le_refl _)
    exact (h8 j t hj).out ho (by omega)
theorem OwnLL.less (h : OwnLL w lo hi A n c ts) (hl : lo' ≤ lo) : OwnLL w lo' hi A n c ts := by
  obtain ⟨h1, h2, xs, f, h3, h4, h5, h6⟩ := h
  exact ⟨h1, h2, xs, f, own_less h3 hl, h4, by omega, h6⟩
theorem OwnLL.wide (h : OwnLL w lo hi A n c ts) (hl : hi ≤ hi') (hs : hi' ≤ w.heap.size) : OwnLL w lo hi' A n c ts := by
  obtain ⟨h1, h2, xs, f, h3, h4, h5, h6, h7, h8⟩ := h
  exact ⟨h1, hs, xs, f, h3, fun k hk => ⟨by have := (h4 k hk).1; omega, (h4 k hk).2⟩, h5, h6, by omega, h8⟩
theorem OwnLL.inn (h : OwnLL w lo hi A n c ts) : InLL w hi A n ts := by
  obtain ⟨h1, h2, xs, f, h3, h4, h5, h6, h7, h8⟩ := h
  refine ⟨h1, fun j t hj => ?_⟩
  have hjl : j < ts.length := (List.getElem?_eq_some_iff.1 hj).1
  have hb : f (j + 1) ≤ f n := mono_le h6 (by omega) (Nat.le_refl _)
  have hxl := h3.1
  obtain ⟨g, rfl⟩ : ∃ g, A = some ⟨g, 0, none⟩ := by
    rcases h3.2 with h' | ⟨g, cap, cur, k1, _⟩
    · have := h'.2; omega
    · injection k1 with k1; exact ⟨g, k1⟩
  obtain ⟨A0, n0, c0, q0, k0⟩ := h8 j t hj
  refine ⟨g, 0, rfl, (h4 g rfl).1, A0, n0, c0, ?_, (k0.inn).more (by omega)⟩
  rw [Nat.zero_add]
  exact (h3.cellAt j (by omega)).trans q0
theorem OwnLL.all (h : OwnLL w lo hi A n c ts) : InLL w w.heap.size A n ts := h.inn.more h.2.1
theorem OwnLL.len (h : OwnLL w lo hi A n c ts) : ts.length = n := h.1
end

theorem infoRow : (Tryd.prog.info? 24).map (fun i => (i.zero, i.size, i.bytes)) = some (some (.slice none 0 0), 1, 24) := by kernel_rfl
/-- What the copy holds when k rows have been laid. -/
def LaidLL (wr : World) (B n k : Nat) (ts : List (List Int)) : Prop :=
  ∃ (xs : List Value) (f : Nat → Nat), wr.ownsRow B 24 1 (.slice (some ⟨B, 0, none⟩) n n) n xs ∧ B + 1 ≤ f 0 ∧ (∀ i, i < k → f i ≤ f (i + 1)) ∧ f k ≤ wr.heap.size ∧ ∀ j, j < k → ∀ t, ts[j]? = some t → PartLL wr xs f j t
theorem laidLL_own {wr : World} {B n : Nat} {ts : List (List Int)} (h : LaidLL wr B n n ts) (hl : ts.length = n) (hB : B < wr.heap.size) : OwnLL wr B wr.heap.size (some ⟨B, 0, none⟩) n n ts := by
  obtain ⟨xs, f, h1, h2, h3, h4, h5⟩ := h
  exact ⟨hl, Nat.le_refl _, xs, f, h1, fun k hk => by have hk' : some B = some k := hk; injection hk' with hk'; omega, by omega, h3, h4, fun j t hj => h5 j (by have := (List.getElem?_eq_some_iff.1 hj).1; omega) t hj⟩
theorem laidLL_step {wr w1 : World} {B n k : Nat} {ts : List (List Int)} {t : List Int} {A0 : Option Addr} {n0 c0 : Nat} (h : LaidLL wr B n k ts) (ht : ts[k]? = some t) (hk : k < n) (hB : B < wr.heap.size)
    (hb : Below wr.heap.size wr w1) (o0 : OwnL w1 wr.heap.size w1.heap.size A0 n0 c0 t) :
    LaidLL (w1.setCell ⟨B, k, none⟩ (.slice A0 n0 c0)) B n (k + 1) ts := by
  obtain ⟨xs, f, h1, hf0, hf1, hf2, h2⟩ := h
  have h1' := own_below h1 hb
  have s4 := (h1'.stored k (.slice A0 n0 c0)).1
  have hxl : xs.length = n * 1 := h1.1
  have ho : Out B (B + 1) w1 (w1.setCell ⟨B, k, none⟩ (.slice A0 n0 c0)) := out_set (Out.refl _ _ _) (by omega)
  generalize w1.setCell ⟨B, k, none⟩ (.slice A0 n0 c0) = w9 at s4 ho ⊢
  have hos := ho.size
  have hbs := hb.size
  obtain ⟨F, hF1, hF2⟩ : ∃ F : Nat → Nat, (∀ i, i ≤ k → F i = f i) ∧ F (k + 1) = w1.heap.size := ⟨fun i => if i ≤ k then f i else w1.heap.size, fun i hi => if_pos hi, if_neg (by omega)⟩
  refine ⟨_, F, s4, by rw [hF1 0 (by omega)]; exact hf0, fun i hi => ?_, by rw [hF2]; omega, fun j hj u hu => ?_⟩
  · by_cases hi2 : i + 1 ≤ k
    · rw [hF1 i (by omega), hF1 _ hi2]; exact hf1 i (by omega)
    · have hik : i = k := by omega
      subst hik
      rw [hF1 _ (Nat.le_refl _), hF2]; omega
  by_cases e1 : j = k
  · subst e1
    rw [ht] at hu
    obtain rfl := Option.some.inj hu
    unfold PartLL
    rw [hF1 _ (Nat.le_refl _), hF2]
    refine ⟨A0, n0, c0, ?_, (o0.out ho (by omega)).less (by omega)⟩
    rw [List.getElem?_set_self (by omega)]
  · obtain ⟨A0', n0', c0', q0, k0⟩ := h2 j (by omega) u hu
    have hfj : f 0 ≤ f j := mono_le hf1 (by omega) (by omega)
    unfold PartLL
    rw [hF1 _ (by omega), hF1 _ (by omega)]
    refine ⟨A0', n0', c0', ?_, (k0.next hb).out ho (by omega)⟩
    rw [List.getElem?_set_ne (by omega)]; exact q0

/-- The marks, row by row. -/
def riseLL : Int → List (List Int) → List (List Int)
  | _, [] => []
  | k, t :: ts => rise k t.length :: riseLL (k + (t.length : Nat)) ts
theorem riseLL_len : ∀ (k : Int) (ts : List (List Int)), (riseLL k ts).length = ts.length
  | _, [] => rfl
  | k, t :: ts => by rw [riseLL, List.length_cons, riseLL_len, List.length_cons]
theorem riseLL_at : ∀ (k : Int) (ts : List (List Int)) (j : Nat) (t : List Int), ts[j]? = some t → (riseLL k ts)[j]? = some (rise (k + ((totLL (ts.take j) : Nat) : Int)) t.length)
  | _, [], j, t, h => by simp at h
  | k, u :: ts, 0, t, h => by
    obtain rfl : u = t := by simpa using h
    simp [riseLL, totLL]
  | k, u :: ts, j + 1, t, h => by
    have h' : ts[j]? = some t := by simpa using h
    rw [riseLL, List.getElem?_cons_succ, riseLL_at _ ts j t h', List.take_succ_cons, totLL_cons]
    congr 2
    omega
def mixLL (k : Int) (ts : List (List Int)) (j : Nat) : List (List Int) := (riseLL k ts).take j ++ ts.drop j
theorem mixLL_zero (k : Int) (ts : List (List Int)) : mixLL k ts 0 = ts := by simp [mixLL]
theorem mixLL_end (k : Int) (ts : List (List Int)) : mixLL k ts ts.length = riseLL k ts := by
  unfold mixLL
  rw [List.drop_length, List.append_nil, List.take_of_length_le (by rw [riseLL_len]; exact Nat.le_refl _)]
theorem mixLL_at (k : Int) {ts : List (List Int)} {j : Nat} {t : List Int} (h : ts[j]? = some t) : (mixLL k ts j)[j]? = some t := by
  have hl := (List.getElem?_eq_some_iff.1 h).1
  unfold mixLL
  rw [List.getElem?_append_right (by rw [List.length_take, riseLL_len]; omega), List.length_take, riseLL_len, List.getElem?_drop, show j + (j - min j ts.length) = j by omega]
  exact h
theorem mixLL_next (k : Int) {ts : List (List Int)} {j : Nat} {t : List Int} (h : ts[j]? = some t) : mixLL k ts (j + 1) = (mixLL k ts j).set j (rise (k + ((totLL (ts.take j) : Nat) : Int)) t.length) := by
  have hl := (List.getElem?_eq_some_iff.1 h).1
  have hr := riseLL_at k ts j t h
  unfold mixLL
  rw [List.take_add_one, hr, List.set_append_right _ _ (by rw [List.length_take, riseLL_len]; omega), List.length_take, riseLL_len, show j - min j ts.length = 0 by omega]
  have hd : ts.drop j = t :: ts.drop (j + 1) := by
    rw [List.drop_eq_getElem_cons hl]
    congr 1
    rw [List.getElem?_eq_getElem hl] at h
    exact Option.some.inj h
  rw [hd]
  simp

end Go.Proofs.YtffkdidgfeknkaaDoor

/-! Lists of numbers in rows of the call's own, no two in one block; rows of such rows. No conditions. -/
namespace Go.Proofs.YtffkdidgfeknkaaDoor
set_option linter.unusedVariables false
open Go.RowKit

section
variable {w w' wa : World} {lo lo' n n' g : Nat} {e e' t : TypeId} {v v' : Value} {xs xs' : List Value} {cs : Array Value}
theorem own_ne_own (h : w.ownsRow lo e 1 v n xs) (h' : w.ownsRow lo' e' 1 v' n' xs') (he : e ≠ e') : ∀ k, v.ownBlock = some k → v'.ownBlock ≠ some k := fun k hk hk' => by
  rcases h.2 with ⟨e1, _⟩ | ⟨g, cap, cur, e1, _, h3, _⟩
  · rw [e1] at hk; cases hk
  rcases h'.2 with ⟨e2, _⟩ | ⟨g', cap', cur', e2, _, h4, _⟩
  · rw [e2] at hk'; cases hk'
  rw [e1] at hk
  rw [e2] at hk'
  obtain rfl : g = k := Option.some.inj hk
  obtain rfl : g' = g := Option.some.inj hk'
  rw [h3] at h4
  injection h4 with h4
  injection h4 with _ h4 _
  exact he h4
theorem own_ne_blk (h : w.ownsRow lo e 1 v n xs) (hb : BlkIs w g t cs) (ht : t ≠ e) : v.ownBlock ≠ some g := fun hk => by
  rcases h.2 with ⟨e1, _⟩ | ⟨g', cap, cur, e1, _, h3, _⟩
  · rw [e1] at hk; cases hk
  rw [e1] at hk
  obtain rfl : g' = g := Option.some.inj hk
  unfold BlkIs at hb
  rw [h3] at hb
  injection hb with hb
  injection hb with _ hb _
  exact ht hb.symm
end

/-- Lists of numbers in rows of the call's own, no two in one block. -/
structure RowsO (w : World) (lo : Nat) (ps : List (Value × List Int)) : Prop where
  own : ∀ (i : Nat) (p : Value × List Int), ps[i]? = some p → w.ownsRow lo 2 1 p.1 p.2.length (p.2.map ic)
  ne : ∀ (i j : Nat) (p q : Value × List Int), i ≠ j → ps[i]? = some p → ps[j]? = some q → ∀ k, p.1.ownBlock = some k → q.1.ownBlock ≠ some k
section
variable {w w' wa : World} {lo : Nat} {ps : List (Value × List Int)}
theorem RowsO.keep (h : RowsO w lo ps) (hb : Below w.heap.size w w') : RowsO w' lo ps := ⟨fun i p hp => own_below (h.own i p hp) hb, h.ne⟩
theorem RowsO.other {r : Option Nat} (h : RowsO w lo ps) (hg : w.grownBy w' r) (hr : ∀ (i : Nat) (p : Value × List Int), ps[i]? = some p → ∀ k, p.1.ownBlock = some k → r ≠ some k) : RowsO w' lo ps :=
  ⟨fun i p hp => (h.own i p hp).kept hg (by
    cases e : p.1.ownBlock with
    | none => exact .inl rfl
    | some k => exact .inr (fun e' => hr i p hp k e e'.symm)), h.ne⟩
/-- A row grows. -/
theorem RowsO.app {i : Nat} {p : Value × List Int} {g' n' c' : Nat} {zs : List Int} (h : RowsO w lo ps) (hp : ps[i]? = some p) (hb : Below w.heap.size w wa) (hgrow : wa.grownBy w' p.1.ownBlock) (hsep : some g' = p.1.ownBlock ∨ wa.heap.size ≤ g')
    (hown : w'.ownsRow lo 2 1 (.slice (some ⟨g', 0, none⟩) n' c') zs.length (zs.map ic)) : RowsO w' lo (ps.set i (.slice (some ⟨g', 0, none⟩) n' c', zs)) := by
  have hi := (List.getElem?_eq_some_iff.1 hp).1
  have hlt : ∀ (j : Nat) q, ps[j]? = some q → ∀ k, q.1.ownBlock = some k → k < w.heap.size := fun j q hq k hk => ((h.own j q hq).lt k hk).2
  have hout : ∀ (j : Nat) q, j ≠ i → ps[j]? = some q → q.1.ownBlock ≠ some g' := fun j q hji hq hk => by
    rcases hsep with e | e
    · exact h.ne j i q p hji hq hp g' hk e.symm
    · have := hlt j q hq g' hk; have := hb.size; omega
  refine ⟨fun j q hq => ?_, fun j k q r hjk hq hr b hb1 hb2 => ?_⟩
  · by_cases e : i = j
    · subst e
      rw [List.getElem?_set_self hi] at hq
      obtain rfl := Option.some.inj hq
      exact hown
    · rw [List.getElem?_set_ne e] at hq
      refine (own_below (h.own j q hq) hb).kept hgrow ?_
      cases e1 : q.1.ownBlock with
      | none => exact .inl rfl
      | some b => exact .inr (fun e2 => h.ne j i q p (fun x => e x.symm) hq hp b e1 e2.symm)
  · by_cases e : i = j
    · subst e
      rw [List.getElem?_set_self hi] at hq
      obtain rfl := Option.some.inj hq
      rw [List.getElem?_set_ne hjk] at hr
      obtain rfl : g' = b := Option.some.inj hb1
      exact hout k r (fun x => hjk x.symm) hr hb2
    · rw [List.getElem?_set_ne e] at hq
      by_cases e2 : i = k
      · subst e2
        rw [List.getElem?_set_self hi] at hr
        obtain rfl := Option.some.inj hr
        obtain rfl : g' = b := Option.some.inj hb2
        exact hout j q hjk hq hb1
      · rw [List.getElem?_set_ne e2] at hr
        exact h.ne j k q r hjk hq hr b hb1 hb2
/-- A row more, in a block of its own. -/
theorem RowsO.snoc {v : Value} {zs : List Int} (h : RowsO w lo ps) (hb : Below w.heap.size w w') (hown : w'.ownsRow w.heap.size 2 1 v zs.length (zs.map ic)) (hlo : lo ≤ w.heap.size) : RowsO w' lo (ps ++ [(v, zs)]) := by
  have hlt : ∀ (j : Nat) q, ps[j]? = some q → ∀ k, q.1.ownBlock = some k → k < w.heap.size := fun j q hq k hk => ((h.own j q hq).lt k hk).2
  have hge : ∀ k, v.ownBlock = some k → w.heap.size ≤ k := fun k hk => (hown.lt k hk).1
  have hl : ∀ (j : Nat) q, (ps ++ [(v, zs)])[j]? = some q → (j < ps.length ∧ ps[j]? = some q) ∨ (j = ps.length ∧ q = (v, zs)) := fun j q hq => by
    rcases Nat.lt_trichotomy j ps.length with k | k | k
    · rw [List.getElem?_append_left k] at hq; exact .inl ⟨k, hq⟩
    · subst k; simp at hq; exact .inr ⟨rfl, hq.symm⟩
    · rw [List.getElem?_eq_none (by simp; omega)] at hq; cases hq
  refine ⟨fun j q hq => ?_, fun i j p q hij hp hq k hk hk' => ?_⟩
  · rcases hl j q hq with ⟨_, e⟩ | ⟨_, rfl⟩
    · exact own_below (h.own j q e) hb
    · exact own_less hown hlo
  · rcases hl i p hp with ⟨a1, e1⟩ | ⟨a1, rfl⟩ <;> rcases hl j q hq with ⟨a2, e2⟩ | ⟨a2, rfl⟩
    · exact h.ne i j p q hij e1 e2 k hk hk'
    · have := hlt i p e1 k hk; have := hge k hk'; omega
    · have := hge k hk; have := hlt j q e2 k hk'; omega
    · omega
theorem RowsO.tail {p : Value × List Int} (h : RowsO w lo (p :: ps)) : RowsO w lo ps := ⟨fun i q hq => h.own (i + 1) q hq, fun i j q r hij hq hr => h.ne (i + 1) (j + 1) q r (by omega) hq hr⟩
theorem RowsO.less {lo' : Nat} (h : RowsO w lo ps) (hl : lo' ≤ lo) : RowsO w lo' ps := ⟨fun i q hq => own_less (h.own i q hq) hl, h.ne⟩
/-- A policy of rows of the call's own. -/
structure PolO (w : World) (lo : Nat) (A : Option Addr) (c : Nat) (R : List (List Int)) (rs : List (Value × List Int)) : Prop where
  eq : rs.map Prod.snd = R
  rows : RowsO w lo rs
  out : w.ownsRow lo 24 1 (.slice A R.length c) R.length (rs.map Prod.fst)
/-- The rows as a policy's. -/
theorem RowsO.inn {ps rs : List (Value × List Int)} (h : RowsO w lo (ps ++ rs)) {A : Option Addr} {c : Nat} (hv : w.ownsRow lo 24 1 (.slice A rs.length c) rs.length (rs.map Prod.fst)) : InLL w w.heap.size A rs.length (rs.map Prod.snd) := by
  refine ⟨by simp, fun j x hx => ?_⟩
  obtain ⟨p, hp, rfl⟩ : ∃ p, rs[j]? = some p ∧ p.2 = x := by
    rw [List.getElem?_map] at hx
    cases e : rs[j]? with
    | none => rw [e] at hx; cases hx
    | some p => rw [e] at hx; exact ⟨p, rfl, Option.some.inj hx⟩
  have hjl := (List.getElem?_eq_some_iff.1 hp).1
  obtain ⟨g, hg, hgl⟩ : ∃ g, A = some ⟨g, 0, none⟩ ∧ g < w.heap.size := by
    rcases hv.2 with ⟨_, h0⟩ | ⟨g, cap, cur, e1, _⟩
    · omega
    · injection e1 with e1; exact ⟨g, e1, (hv.lt g (by rw [e1]; rfl)).2⟩
  subst hg
  have hown := h.own (ps.length + j) p (by rw [List.getElem?_append_right (by omega), Nat.add_sub_cancel_left]; exact hp)
  obtain ⟨A0, c0, e0, _⟩ := own_slice hown
  have hc := hv.cellAt j (by omega)
  rw [List.getElem?_map, hp] at hc
  refine ⟨g, 0, rfl, hgl, A0, p.2.length, c0, ?_, ?_⟩
  · rw [Nat.zero_add, hc]; show some p.1 = _; rw [e0]
  · rw [e0] at hown
    exact (OwnL.of_own hown).inn
theorem PolO.inn {R : List (List Int)} {rs : List (Value × List Int)} {A : Option Addr} {c : Nat} (h : PolO w lo A c R rs) : InLL w w.heap.size A R.length R := by
  obtain ⟨rfl, h2, h3⟩ := h
  rw [List.length_map] at h3 ⊢
  exact RowsO.inn (ps := []) h2 h3
theorem PolO.far {R : List (List Int)} {rs : List (Value × List Int)} {A : Option Addr} {c g i : Nat} {u : Value} (h : PolO w lo A c R rs) (hg : g < lo) : PolO (w.setCell ⟨g, i, none⟩ u) lo A c R rs := by
  refine ⟨h.eq, h.rows.other (only_set (g := g)) (fun j p hp k hk e => ?_), h.out.kept (only_set (g := g)) (.inr fun e => ?_)⟩
  · obtain rfl : g = k := Option.some.inj e
    have := ((h.rows.own j p hp).lt g hk).1; omega
  · have := (h.out.lt g e).1; omega
theorem PolO.less {R : List (List Int)} {rs : List (Value × List Int)} {A : Option Addr} {c lo' : Nat} (h : PolO w lo A c R rs) (hl : lo' ≤ lo) : PolO w lo' A c R rs := ⟨h.eq, h.rows.less hl, own_less h.out hl⟩
theorem PolO.keep {R : List (List Int)} {rs : List (Value × List Int)} {A : Option Addr} {c : Nat} (h : PolO w lo A c R rs) (hb : Below w.heap.size w w') : PolO w' lo A c R rs := ⟨h.eq, h.rows.keep hb, own_below h.out hb⟩
theorem PolO.nil (w : World) (lo : Nat) : PolO w lo none 0 [] [] := ⟨rfl, ⟨fun i p hp => by simp at hp, fun i j p q _ hp => by simp at hp⟩, World.ownsRow_nil _ _ _ _⟩
end
end Go.Proofs.YtffkdidgfeknkaaDoor

/-! The model's drawing of a state. Conditions: fewer than a million choices before. -/
namespace Go.Proofs.YtffkdidgfeknkaaDoor
set_option linter.unusedVariables false
open Go.RowKit

theorem wp_app_runS {o : Oper} {a : Act} {w : World} {K : Act → World → Prop} {Q : Exit → Act → World → Prop} (x y : Operand) (ts : TypeId) (ho : o.op = .call { callee := .builtin .append, args := #[x, y], argTypes := #[ts, ts] })
    (vx vy : Value) (hx : a.eval x = vx) (hy : a.eval y = vy) (v' : Value) (w' : World) (hr : (Builtin.append_ #[ts, ts] o.type #[vx, vy]).run Tryd.prog w = .ok v' w') (h : K (a.put o.dst v') w') : o.wp Tryd.prog a w K Q := by
  unfold Oper.wp
  simp only [execOp, ho, resolve, Sem.run_bind, Sem.run_pure, Result.andThen_ok, invoke, builtin]
  simp only [List.map_toArray, List.map_cons, List.map_nil, hx, hy]
  rw [hr]
  exact h
theorem infoS64 : (Tryd.prog.info? 2).map (fun i => (i.zero, i.size, i.bytes)) = some (some (.int .i64 0), 1, 8) := by kernel_rfl
/-- append of one number, just made, to a row of the call's own. -/
theorem app_num {w : World} {base m : Nat} {v : Value} {ys : List Int} (p : Int) (hr : w.ownsRow base 2 1 v m (ys.map ic)) (hbw : base ≤ w.heap.size) (hk : m ≤ 1000) :
    ∃ g' c' w', (Builtin.append_ #[24, 24] 24 #[v, .slice (some ⟨w.heap.size, 0, none⟩) 1 1]).run Tryd.prog (w.alloc (.cells #[.int .i64 p] 2)) = .ok (.slice (some ⟨g', 0, none⟩) (m + 1) c') w' ∧
      w'.ownsRow base 2 1 (.slice (some ⟨g', 0, none⟩) (m + 1) c') (m + 1) ((ys ++ [p]).map ic) ∧ (w.alloc (.cells #[.int .i64 p] 2)).grownBy w' v.ownBlock ∧ (some g' = v.ownBlock ∨ w.heap.size ≤ g') := by
  have hb := bnew w (.cells #[.int .i64 p] 2)
  obtain ⟨i0, hi, hz0, hz1, hz2⟩ := info_parts infoS64
  have hr' := own_below hr hb
  obtain ⟨g', c', w', e1, e2, e3, e4⟩ := run_append_sep (P := Tryd.prog) (w := w.alloc (.cells #[.int .i64 p] 2)) base 24 24 2 i0 (.int .i64 0) 1 8 Tryd.underlying24 hi hz0 hz1 hz2 rfl (by decide) v m _ hr' ⟨w.heap.size, 0, none⟩ 1 1 [.int .i64 p] rfl (one_new w (.int .i64 p) _ _ rfl) (fun u hu => by simp at hu; subst hu; rfl) (by unfold maxLen; omega) (by omega) (Nat.le_trans hbw hb.size) (by omega)
  have hm : (ys ++ [p]).map ic = ys.map ic ++ [.int .i64 p] := by simp [ic]
  rw [← hm] at e2
  exact ⟨g', c', w', e1, e2, e3, e4.imp id (fun h => Nat.le_trans hb.size h)⟩

/-- A state that is being drawn: its box, its rows, the source. -/
structure StS (wc : World) (g k b g0 m0 c0 g1 m1 c1 : Nat) (zs ys : List Int) (W : World) : Prop where
  box : BlkIs W b 46 #[.slice (some ⟨g0, 0, none⟩) m0 c0, .slice (some ⟨g1, 0, none⟩) m1 c1]
  r0 : W.ownsRow wc.heap.size 2 1 (.slice (some ⟨g0, 0, none⟩) m0 c0) m0 (zs.map ic)
  r1 : W.ownsRow wc.heap.size 2 1 (.slice (some ⟨g1, 0, none⟩) m1 c1) m1 (ys.map ic)
  ne : g0 ≠ g1
  grow : wc.grownBy W (some g)
  gl : g < wc.heap.size
  lo : wc.heap.size ≤ b
  src : Src W g k
  l0 : zs.length = m0
  l1 : ys.length = m1
  s0 : ∀ z ∈ zs, -1000000000 ≤ z ∧ z ≤ 1000000000
  s1 : ∀ z ∈ ys, -1000000000 ≤ z ∧ z ≤ 1000000000
section
variable {wc W W' Wa : World} {g k k' b g0 m0 c0 g1 m1 c1 g' c' : Nat} {zs ys : List Int} {z : Int}
theorem StS.pick (h : StS wc g k b g0 m0 c0 g1 m1 c1 zs ys W) (hg : W.grownBy W' (some g)) (hs : Src W' g k') : StS wc g k' b g0 m0 c0 g1 m1 c1 zs ys W' :=
  ⟨h.box.by_grown hg (fun e => by have := Option.some.inj e; have := h.gl; have := h.lo; omega), h.r0.kept hg (.inr fun e => by have := (h.r0.lt g e).1; have := h.gl; omega), h.r1.kept hg (.inr fun e => by have := (h.r1.lt g e).1; have := h.gl; omega), h.ne, only_trans h.grow hg, h.gl, h.lo, hs, h.l0, h.l1, h.s0, h.s1⟩
theorem StS.keep (h : StS wc g k b g0 m0 c0 g1 m1 c1 zs ys W) (hb : Below W.heap.size W W') : StS wc g k b g0 m0 c0 g1 m1 c1 zs ys W' :=
  ⟨h.box.next hb, own_below h.r0 hb, own_below h.r1 hb, h.ne, grow_onI h.grow (hb.mono h.grow.size), h.gl, h.lo, h.src.below hb h.src.lt, h.l0, h.l1, h.s0, h.s1⟩
theorem StS.more (h : StS wc g k b g0 m0 c0 g1 m1 c1 zs ys W) (hk : k ≤ k') : StS wc g k' b g0 m0 c0 g1 m1 c1 zs ys W := ⟨h.box, h.r0, h.r1, h.ne, h.grow, h.gl, h.lo, h.src.more hk, h.l0, h.l1, h.s0, h.s1⟩
theorem StS.app0 (h : StS wc g k b g0 m0 c0 g1 m1 c1 zs ys W) (hb : Below W.heap.size W Wa) (hgr : Wa.grownBy W' (some g0)) (hs : g' = g0 ∨ W.heap.size ≤ g')
    (hown : W'.ownsRow wc.heap.size 2 1 (.slice (some ⟨g', 0, none⟩) (m0 + 1) c') (m0 + 1) ((zs ++ [z]).map ic)) (hz : -1000000000 ≤ z ∧ z ≤ 1000000000) :
    StS wc g k b g' (m0 + 1) c' g1 m1 c1 (zs ++ [z]) ys (W'.setCell ⟨b, 0, none⟩ (.slice (some ⟨g', 0, none⟩) (m0 + 1) c')) := by
  have hn0 := own_ne_blk h.r0 h.box (by decide)
  have hgb : g' ≠ b := fun e => by
    rcases hs with hs | hs
    · exact hn0 (congrArg some (hs.symm.trans e))
    · have := h.box.lt; have := hb.size; omega
  have hbb : Below wc.heap.size W (W'.setCell ⟨b, 0, none⟩ (.slice (some ⟨g', 0, none⟩) (m0 + 1) c')) := ((hb.mono h.grow.size).grown hgr (Nat.le_trans h.grow.size hb.size) (fun q hq => by obtain rfl : g0 = q := Option.some.inj hq; exact (h.r0.lt g0 rfl).1)).setCell (p := ⟨b, 0, none⟩) h.lo _
  have hbx := ((h.box.next hb).by_grown hgr hn0).set 0 (.slice (some ⟨g', 0, none⟩) (m0 + 1) c')
  exact ⟨by simpa using hbx, (ownsRow_setCell_other (a := ⟨b, 0, none⟩) hown (fun e => hgb (Option.some.inj (show some g' = some b from e))) _), (ownsRow_setCell_other ((own_below h.r1 hb).kept hgr (.inr fun e => h.ne (by have e2 : some g1 = some g0 := e; have := Option.some.inj e2; omega))) (own_ne_blk h.r1 h.box (by decide)) _), (fun e => by rcases hs with rfl | hs; exact h.ne e; have := (h.r1.lt g1 rfl).2; have := hb.size; omega), grow_onI h.grow hbb, h.gl, h.lo, h.src.below hbb h.gl, (by rw [List.length_append, h.l0]; rfl), h.l1, (fun q hq => by rcases List.mem_append.1 hq with q1 | q1; exact h.s0 q q1; obtain rfl := List.mem_singleton.1 q1; exact hz), h.s1⟩
theorem StS.app1 (h : StS wc g k b g0 m0 c0 g1 m1 c1 zs ys W) (hb : Below W.heap.size W Wa) (hgr : Wa.grownBy W' (some g1)) (hs : g' = g1 ∨ W.heap.size ≤ g')
    (hown : W'.ownsRow wc.heap.size 2 1 (.slice (some ⟨g', 0, none⟩) (m1 + 1) c') (m1 + 1) ((ys ++ [z]).map ic)) (hz : -1000000000 ≤ z ∧ z ≤ 1000000000) :
    StS wc g k b g0 m0 c0 g' (m1 + 1) c' zs (ys ++ [z]) (W'.setCell ⟨b, 1, none⟩ (.slice (some ⟨g', 0, none⟩) (m1 + 1) c')) := by
  have hn1 := own_ne_blk h.r1 h.box (by decide)
  have hgb : g' ≠ b := fun e => by
    rcases hs with hs | hs
    · exact hn1 (congrArg some (hs.symm.trans e))
    · have := h.box.lt; have := hb.size; omega
  have hbb : Below wc.heap.size W (W'.setCell ⟨b, 1, none⟩ (.slice (some ⟨g', 0, none⟩) (m1 + 1) c')) := ((hb.mono h.grow.size).grown hgr (Nat.le_trans h.grow.size hb.size) (fun q hq => by obtain rfl : g1 = q := Option.some.inj hq; exact (h.r1.lt g1 rfl).1)).setCell (p := ⟨b, 1, none⟩) h.lo _
  have hbx := ((h.box.next hb).by_grown hgr hn1).set 1 (.slice (some ⟨g', 0, none⟩) (m1 + 1) c')
  exact ⟨by simpa using hbx, (ownsRow_setCell_other ((own_below h.r0 hb).kept hgr (.inr fun e => h.ne (by have e2 : some g0 = some g1 := e; have := Option.some.inj e2; omega))) (own_ne_blk h.r0 h.box (by decide)) _), (ownsRow_setCell_other (a := ⟨b, 1, none⟩) hown (fun e => hgb (Option.some.inj (show some g' = some b from e))) _), (fun e => by rcases hs with rfl | hs; exact h.ne e; have := (h.r0.lt g0 rfl).2; have := hb.size; omega), grow_onI h.grow hbb, h.gl, h.lo, h.src.below hbb h.gl, h.l0, (by rw [List.length_append, h.l1]; rfl), h.s0, (fun q hq => by rcases List.mem_append.1 hq with q1 | q1; exact h.s1 q q1; obtain rfl := List.mem_singleton.1 q1; exact hz)⟩
/-- The first number is another one. -/
theorem StS.put (h : StS wc g k b g0 m0 c0 g1 m1 c1 zs ys W) (hz : -1000000000 ≤ z ∧ z ≤ 1000000000) : StS wc g k b g0 m0 c0 g1 m1 c1 (zs.set 0 z) ys (W.setCell ⟨g0, 0, none⟩ (.int .i64 z)) := by
  obtain ⟨k1, k2⟩ := h.r0.stored 0 (.int .i64 z)
  have hbb : Below wc.heap.size W (W.setCell ⟨g0, 0, none⟩ (.int .i64 z)) := below_set (h.r0.lt g0 rfl).1
  refine ⟨h.box.far (fun e => own_ne_blk h.r0 h.box (by decide) (congrArg some e.symm)) 0 _, ?_, ownsRow_setCell_other h.r1 (fun e => h.ne (Option.some.inj e).symm) _, h.ne, grow_onI h.grow hbb, h.gl, h.lo, h.src.below hbb h.gl, by rw [List.length_set]; exact h.l0, h.l1, fun q hq => ?_, h.s1⟩
  · rw [List.map_set]; exact k1
  · rcases List.mem_or_eq_of_mem_set hq with q1 | rfl
    · exact h.s0 q q1
    · exact hz
end
/-- A row's block is not frozen. -/
theorem own_frozen {w : World} {base n c g o : Nat} {e : TypeId} {xs : List Value} (h : w.ownsRow base e 1 (.slice (some ⟨g, 0, none⟩) n c) n xs) : w.frozen? ⟨g, o, none⟩ = false := by
  rcases h.2 with ⟨h1, h2⟩ | ⟨g', cap, cur, h1, h2, h3, h4⟩
  · cases h1
  · injection h1 with a b c'
    injection a with a
    injection a with a
    subst a
    simp [World.frozen?, h3]
/-- What is drawn: a valid state. -/
def StQ (wc : World) (g k : Nat) : Ending → World → Prop := fun e w' => ∃ A c vs A' c' zs, e = .returned (.agg #[.slice A 4 c, .slice A' 8 c']) ∧ stB vs zs = true ∧ InL w' w'.heap.size A 4 vs ∧ InL w' w'.heap.size A' 8 zs ∧ Src w' g k ∧ wc.grownBy w' (some g)

theorem numsB_of {k : Nat} {zs : List Int} (hl : zs.length = k) (hb : ∀ z ∈ zs, -1000000000 ≤ z ∧ z ≤ 1000000000) : numsB k zs = true := by
  rw [numsB_is hl]
  exact decide_eq_true hb
theorem StS.fin {w wc W : World} {g k b c0 g0 g1 c1 rb : Nat} {zs ys : List Int} (h : StS wc g k b g0 4 c0 g1 8 c1 zs ys W) (hw : w.grownBy wc (some g)) (hr : w.heap.size ≤ rb) (hr2 : rb < wc.heap.size) (hg : g < w.heap.size) :
    StQ w g k (.returned (.agg #[.slice (some ⟨g0, 0, none⟩) 4 c0, .slice (some ⟨g1, 0, none⟩) 8 c1])) ((W.setCell ⟨rb, 0, none⟩ (.slice (some ⟨g0, 0, none⟩) 4 c0)).setCell ⟨rb, 1, none⟩ (.slice (some ⟨g1, 0, none⟩) 8 c1)) := by
  have hb : Below w.heap.size W ((W.setCell ⟨rb, 0, none⟩ (.slice (some ⟨g0, 0, none⟩) 4 c0)).setCell ⟨rb, 1, none⟩ (.slice (some ⟨g1, 0, none⟩) 8 c1)) := (below_set hr).trans (below_set hr)
  have r0 := ownsRow_setCell_below (a := ⟨rb, 1, none⟩) (ownsRow_setCell_below (a := ⟨rb, 0, none⟩) h.r0 hr2 (.slice (some ⟨g0, 0, none⟩) 4 c0)) hr2 (.slice (some ⟨g1, 0, none⟩) 8 c1)
  have r1 := ownsRow_setCell_below (a := ⟨rb, 1, none⟩) (ownsRow_setCell_below (a := ⟨rb, 0, none⟩) h.r1 hr2 (.slice (some ⟨g0, 0, none⟩) 4 c0)) hr2 (.slice (some ⟨g1, 0, none⟩) 8 c1)
  refine ⟨_, c0, zs, _, c1, ys, rfl, ?_, (OwnL.of_own r0).all, (OwnL.of_own r1).all, h.src.below hb hg, grow_onI (only_trans hw h.grow) hb⟩
  rw [stB_is (numsB_of h.l0 h.s0)]
  exact numsB_of h.l1 h.s1

set_option maxRecDepth 100000 in
set_option maxHeartbeats 8000000 in
theorem l03DrawState_c (g k : Nat) (w : World) (h : Src w g k) (hk : k ≤ 900000) :
    Calls Tryd.prog 47 #[.pointer (some ⟨g, 0, none⟩)] w (StQ w g (k + 30)) := by
  have hglt := h.lt
  have hw0 : w.grownBy (w.alloc (.cells #[.slice none 0 0, .slice none 0 0] 46)) (some g) := World.grownBy_alloc w _ (some g)
  have hR0 : BlkIs (w.alloc (.cells #[.slice none 0 0, .slice none 0 0] 46)) w.heap.size 46 #[.slice none 0 0, .slice none 0 0] := blk_new _ _ _ _ rfl
  have hs0 := h.below (bnew w (.cells #[.slice none 0 0, .slice none 0 0] 46)) hglt
  have hsz : (w.alloc (.cells #[.slice none 0 0, .slice none 0 0] 46)).heap.size = w.heap.size + 1 := by simp
  clear h
  go_enter Tryd.func47, Tryd.ntmps47
  go_wp2_with fail
  generalize w.alloc (.cells #[.slice none 0 0, .slice none 0 0] 46) = wc at hw0 hR0 hs0 hsz ⊢
  rw [← hsz]
  have h2 := own_empty (wc.alloc (.cells #[] 2)) 2
  rw [show (wc.alloc (.cells #[] 2)).heap.size = wc.heap.size + 1 by simp] at h2
  have hbb : Below wc.heap.size wc (((wc.alloc (.cells #[] 2)).alloc (.cells #[] 2)).alloc (.cells #[.slice (some ⟨wc.heap.size, 0, none⟩) 0 0, .slice (some ⟨wc.heap.size + 1, 0, none⟩) 0 0] 46)) := bon (bon (bnew _ _) (bnew _ _)) (bnew _ _)
  have hT0 : StS wc g k (wc.heap.size + 1 + 1) wc.heap.size 0 0 (wc.heap.size + 1) 0 0 [] [] (((wc.alloc (.cells #[] 2)).alloc (.cells #[] 2)).alloc (.cells #[.slice (some ⟨wc.heap.size, 0, none⟩) 0 0, .slice (some ⟨wc.heap.size + 1, 0, none⟩) 0 0] 46)) := ⟨blk_new _ _ _ _ (by simp), own_below (own_below (own_empty wc _) (bnew _ _)) (bnew _ _), own_below (own_less h2 (by omega)) (bnew _ _), by omega, grow_onI (only_refl wc _) hbb, by omega, by omega, hs0.below hbb (by omega), rfl, rfl, (by intro q hq; cases hq), (by intro q hq; cases hq)⟩
  obtain ⟨rb, hrb⟩ : ∃ rb, Hid (w.heap.size = rb) := ⟨_, rfl⟩
  rw [hrb.out] at hR0 hsz hglt ⊢
  generalize (((wc.alloc (.cells #[] 2)).alloc (.cells #[] 2)).alloc (.cells #[.slice (some ⟨wc.heap.size, 0, none⟩) 0 0, .slice (some ⟨wc.heap.size + 1, 0, none⟩) 0 0] 46)) = W1 at hT0 ⊢
  generalize wc.heap.size + 1 + 1 = b at hT0 ⊢
  have hrl : rb < wc.heap.size := by omega
  have hgl : g < wc.heap.size := by omega
  clear hsz
  clear hbb h2 hs0
  have HT := Lib.hid hT0
  clear hT0
  go_loopw [4] (fun i wr => ∃ (j g0 c0 : Nat) (zs : List Int), i = .int .i64 j ∧ j ≤ 4 ∧ Hid (StS wc g (k + 2 * j) b g0 j c0 (wc.heap.size + 1) 0 0 zs [] wr)) (fun i _ => (4 - intOf i).toNat)
  case atStart => exact ⟨0, wc.heap.size, 0, [], rfl, by omega, HT⟩
  case round =>
    clear HT
    rename World => wr
    obtain ⟨j, g0, c0, zs, rfl, hj, hM⟩ := hrel
    by_cases hlt : j < 4
    · have i3 : (j : Int) < 4 := by omega
      go_wp2_with fail
      have HD := Lib.hid (hM.out.keep ((Below.refl wr.heap.size wr).drew))
      clear hM
      refine wp_region_held_drew (S := fun _ => True) (by kernel_rfl) trivial ?_
      intro hHeld0
      generalize wr.drew = W0 at HD ⊢
      refine wpAnyH_take (i := 0) (v := ?_) rfl (by kernel_rfl) (by kernel_rfl) (by kernel_rfl) (fun _ _ _ h => h) (Or.inl ⟨by kernel_rfl, ?_⟩) (by assumption) ?_
      rotate_left
      · intro w9 hS9; (try dsimp only at hS9); go_simp; (try with_reducible rfl)
      set_option linter.unusedSimpArgs false in try simp only [Act.put, List.getElem_toArray, List.getElem_cons_succ, List.getElem_cons_zero, List.setIfInBounds_toArray, List.set_cons_zero, List.set_cons_succ]
      refine wpAnyH_take (i := 2) (v := ?_) rfl (by kernel_rfl) (by kernel_rfl) (by kernel_rfl) (fun _ _ _ h => h) (Or.inl ⟨by kernel_rfl, ?_⟩) (by assumption) ?_
      rotate_left
      · intro w9 hS9; (try dsimp only at hS9); go_simp; (try with_reducible rfl)
      set_option linter.unusedSimpArgs false in try simp only [Act.put, List.getElem_toArray, List.getElem_cons_succ, List.getElem_cons_zero, List.setIfInBounds_toArray, List.set_cons_zero, List.set_cons_succ]
      refine wpAnyH_ready (rs := [1, 3]) (by kernel_rfl) (by simp) ?_
      refine AllReadyH.cons rfl (fun K hK => ?_) (AllReadyH.cons rfl (fun K hK => ?_) (AllReadyH.nil))
      · have z1 := HD.out.box.cell 0
        simp at z1
        go_simp
        refine hK.out _ _ trivial (fun hHeld2 => ?_)
        clear hK K hHeld0
        set_option linter.unusedSimpArgs false in try simp only [Act.put, List.getElem_toArray, List.getElem_cons_succ, List.getElem_cons_zero, List.setIfInBounds_toArray, List.set_cons_zero, List.set_cons_succ]
        refine wpAnyH_ready (rs := [3]) (by kernel_rfl) (by simp) ?_
        refine AllReadyH.cons rfl (fun K hK => ?_) (AllReadyH.nil)
        go_simp
        go_wp2_with (go_at_call 31; refine (pick_c g _ 9 _ HD.out.src (by omega) (by omega) (by omega)).mono ?_; rintro e w5 ⟨y, rfl, hy0, hy1, hs5, hg5⟩)
        have hS5 := HD.out.pick hg5 hs5
        have bx5 := hS5.box
        have e1 : IntKind.i64.wrap (y - 2) = y - 2 := IntWalk.i64_in _ (by omega)
        refine hK.out _ _ trivial (fun hHeld3 => ?_)
        clear hK K hHeld2
        set_option linter.unusedSimpArgs false in try simp only [Act.put, List.getElem_toArray, List.getElem_cons_succ, List.getElem_cons_zero, List.setIfInBounds_toArray, List.set_cons_zero, List.set_cons_succ]
        refine wpAnyH_take (i := 4) (v := ?_) rfl (by kernel_rfl) (by kernel_rfl) (by kernel_rfl) (fun _ _ _ h => h) (Or.inl ⟨by kernel_rfl, ?_⟩) (by assumption) ?_
        rotate_left
        · intro w9 hS9; (try dsimp only at hS9); go_simp; (try with_reducible rfl)
        set_option linter.unusedSimpArgs false in try simp only [Act.put, List.getElem_toArray, List.getElem_cons_succ, List.getElem_cons_zero, List.setIfInBounds_toArray, List.set_cons_zero, List.set_cons_succ]
        refine wpAnyH_ready (rs := [5]) (by kernel_rfl) (by simp) ?_
        refine AllReadyH.cons rfl (fun K hK => ?_) (AllReadyH.nil)
        go_simp
        obtain ⟨g', c', w6, x3, r3, g3, s3⟩ := app_num (y - 2) hS5.r0 hS5.grow.size (by omega)
        have hb6 := bnew w5 (.cells #[.int .i64 (y - 2)] 2)
        have bx6 := bx5.next hb6
        have hB7 := bx6.by_grown g3 (own_ne_blk hS5.r0 bx5 (by decide))
        have hA := hS5.app0 (Wa := w5.alloc (.cells #[.int .i64 (y - 2)] 2)) hb6 g3 (s3.imp (fun e => Option.some.inj e) id) r3 (by omega)
        generalize w5.alloc (.cells #[.int .i64 (y - 2)] 2) = V at x3 bx6 ⊢
        clear g3 s3 r3 hS5 hs5 hg5
        refine hK.out _ _ trivial (fun hHeld4 => ?_)
        clear hK K hHeld3
        set_option linter.unusedSimpArgs false in try simp only [Act.put, List.getElem_toArray, List.getElem_cons_succ, List.getElem_cons_zero, List.setIfInBounds_toArray, List.set_cons_zero, List.set_cons_succ]
        refine wpAnyH_ready (rs := [6]) (by kernel_rfl) (by simp) ?_
        refine AllReadyH.cons rfl (fun K hK => ?_) (AllReadyH.nil)
        refine Eq.mpr (if_pos (by kernel_rfl)) ?_
        refine wp_app_runS _ _ 24 rfl (.slice (some ⟨g0, 0, none⟩) j c0) (.slice (some ⟨w5.heap.size, 0, none⟩) 1 1) rfl rfl (.slice (some ⟨g', 0, none⟩) (j + 1) c') w6 x3 ?_
        have z6 := hB7.cell 0
        have f6 := hB7.frozen 0
        simp at z6
        refine hK.out _ _ trivial (fun hHeld5 => ?_)
        clear hK K hHeld4
        set_option linter.unusedSimpArgs false in try simp only [Act.put, List.getElem_toArray, List.getElem_cons_succ, List.getElem_cons_zero, List.setIfInBounds_toArray, List.set_cons_zero, List.set_cons_succ]
        refine wpAnyH_take (i := 7) (v := ?_) rfl (by kernel_rfl) (by kernel_rfl) (by kernel_rfl) (fun _ _ _ h => h) (Or.inl ⟨by kernel_rfl, ?_⟩) (by assumption) ?_
        rotate_left
        · intro w9 hS9; (try dsimp only at hS9); go_simp; (try with_reducible rfl)
        set_option linter.unusedSimpArgs false in try simp only [Act.put, List.getElem_toArray, List.getElem_cons_succ, List.getElem_cons_zero, List.setIfInBounds_toArray, List.set_cons_zero, List.set_cons_succ]
        refine wpAnyH_ready (rs := [8]) (by kernel_rfl) (by simp) ?_
        refine AllReadyH.cons rfl (fun K hK => ?_) (AllReadyH.nil)
        go_simp
        refine hK.out _ _ trivial (fun hHeld6 => ?_)
        clear hK K hHeld5
        set_option linter.unusedSimpArgs false in try simp only [Act.put, List.getElem_toArray, List.getElem_cons_succ, List.getElem_cons_zero, List.setIfInBounds_toArray, List.set_cons_zero, List.set_cons_succ]
        refine wpAnyH_done (by kernel_rfl) ?_ _
        have HA := Lib.hid hA
        clear hA hB7 z6 f6 bx6
        go_wp2_with fail
        go_roundw
        case rel => exact ⟨j + 1, g', c', zs ++ [y - 2], by go_num, by omega, HA.out.more (by omega)⟩
        case measure => simp [intOf]; omega
      · go_simp
        go_wp2_with (go_at_call 31; refine (pick_c g _ 9 _ HD.out.src (by omega) (by omega) (by omega)).mono ?_; rintro e w5 ⟨y, rfl, hy0, hy1, hs5, hg5⟩)
        have hS5 := HD.out.pick hg5 hs5
        have bx5 := hS5.box
        have e1 : IntKind.i64.wrap (y - 2) = y - 2 := IntWalk.i64_in _ (by omega)
        refine hK.out _ _ trivial (fun hHeld7 => ?_)
        clear hK K hHeld0
        set_option linter.unusedSimpArgs false in try simp only [Act.put, List.getElem_toArray, List.getElem_cons_succ, List.getElem_cons_zero, List.setIfInBounds_toArray, List.set_cons_zero, List.set_cons_succ]
        refine wpAnyH_take (i := 4) (v := ?_) rfl (by kernel_rfl) (by kernel_rfl) (by kernel_rfl) (fun _ _ _ h => h) (Or.inl ⟨by kernel_rfl, ?_⟩) (by assumption) ?_
        rotate_left
        · intro w9 hS9; (try dsimp only at hS9); go_simp; (try with_reducible rfl)
        set_option linter.unusedSimpArgs false in try simp only [Act.put, List.getElem_toArray, List.getElem_cons_succ, List.getElem_cons_zero, List.setIfInBounds_toArray, List.set_cons_zero, List.set_cons_succ]
        refine wpAnyH_ready (rs := [1, 5]) (by kernel_rfl) (by simp) ?_
        refine AllReadyH.cons rfl (fun K hK => ?_) (AllReadyH.cons rfl (fun K hK => ?_) (AllReadyH.nil))
        · have z8 := bx5.cell 0
          simp at z8
          go_simp
          refine hK.out _ _ trivial (fun hHeld9 => ?_)
          clear hK K hHeld7
          set_option linter.unusedSimpArgs false in try simp only [Act.put, List.getElem_toArray, List.getElem_cons_succ, List.getElem_cons_zero, List.setIfInBounds_toArray, List.set_cons_zero, List.set_cons_succ]
          refine wpAnyH_ready (rs := [5]) (by kernel_rfl) (by simp) ?_
          refine AllReadyH.cons rfl (fun K hK => ?_) (AllReadyH.nil)
          go_simp
          obtain ⟨g', c', w6, x3, r3, g3, s3⟩ := app_num (y - 2) hS5.r0 hS5.grow.size (by omega)
          have hb6 := bnew w5 (.cells #[.int .i64 (y - 2)] 2)
          have bx6 := bx5.next hb6
          have hB7 := bx6.by_grown g3 (own_ne_blk hS5.r0 bx5 (by decide))
          have hA := hS5.app0 (Wa := w5.alloc (.cells #[.int .i64 (y - 2)] 2)) hb6 g3 (s3.imp (fun e => Option.some.inj e) id) r3 (by omega)
          generalize w5.alloc (.cells #[.int .i64 (y - 2)] 2) = V at x3 bx6 ⊢
          clear g3 s3 r3 hS5 hs5 hg5
          refine hK.out _ _ trivial (fun hHeld10 => ?_)
          clear hK K hHeld9
          set_option linter.unusedSimpArgs false in try simp only [Act.put, List.getElem_toArray, List.getElem_cons_succ, List.getElem_cons_zero, List.setIfInBounds_toArray, List.set_cons_zero, List.set_cons_succ]
          refine wpAnyH_ready (rs := [6]) (by kernel_rfl) (by simp) ?_
          refine AllReadyH.cons rfl (fun K hK => ?_) (AllReadyH.nil)
          refine Eq.mpr (if_pos (by kernel_rfl)) ?_
          refine wp_app_runS _ _ 24 rfl (.slice (some ⟨g0, 0, none⟩) j c0) (.slice (some ⟨w5.heap.size, 0, none⟩) 1 1) rfl rfl (.slice (some ⟨g', 0, none⟩) (j + 1) c') w6 x3 ?_
          have z6 := hB7.cell 0
          have f6 := hB7.frozen 0
          simp at z6
          refine hK.out _ _ trivial (fun hHeld11 => ?_)
          clear hK K hHeld10
          set_option linter.unusedSimpArgs false in try simp only [Act.put, List.getElem_toArray, List.getElem_cons_succ, List.getElem_cons_zero, List.setIfInBounds_toArray, List.set_cons_zero, List.set_cons_succ]
          refine wpAnyH_take (i := 7) (v := ?_) rfl (by kernel_rfl) (by kernel_rfl) (by kernel_rfl) (fun _ _ _ h => h) (Or.inl ⟨by kernel_rfl, ?_⟩) (by assumption) ?_
          rotate_left
          · intro w9 hS9; (try dsimp only at hS9); go_simp; (try with_reducible rfl)
          set_option linter.unusedSimpArgs false in try simp only [Act.put, List.getElem_toArray, List.getElem_cons_succ, List.getElem_cons_zero, List.setIfInBounds_toArray, List.set_cons_zero, List.set_cons_succ]
          refine wpAnyH_ready (rs := [8]) (by kernel_rfl) (by simp) ?_
          refine AllReadyH.cons rfl (fun K hK => ?_) (AllReadyH.nil)
          go_simp
          refine hK.out _ _ trivial (fun hHeld12 => ?_)
          clear hK K hHeld11
          set_option linter.unusedSimpArgs false in try simp only [Act.put, List.getElem_toArray, List.getElem_cons_succ, List.getElem_cons_zero, List.setIfInBounds_toArray, List.set_cons_zero, List.set_cons_succ]
          refine wpAnyH_done (by kernel_rfl) ?_ _
          have HA := Lib.hid hA
          clear hA hB7 z6 f6 bx6
          go_wp2_with fail
          go_roundw
          case rel => exact ⟨j + 1, g', c', zs ++ [y - 2], by go_num, by omega, HA.out.more (by omega)⟩
          case measure => simp [intOf]; omega
        · go_simp
          obtain ⟨g', c', w6, x3, r3, g3, s3⟩ := app_num (y - 2) hS5.r0 hS5.grow.size (by omega)
          have hb6 := bnew w5 (.cells #[.int .i64 (y - 2)] 2)
          have bx6 := bx5.next hb6
          have hB7 := bx6.by_grown g3 (own_ne_blk hS5.r0 bx5 (by decide))
          have hA := hS5.app0 (Wa := w5.alloc (.cells #[.int .i64 (y - 2)] 2)) hb6 g3 (s3.imp (fun e => Option.some.inj e) id) r3 (by omega)
          generalize w5.alloc (.cells #[.int .i64 (y - 2)] 2) = V at x3 bx6 ⊢
          clear g3 s3 r3 hS5 hs5 hg5
          refine hK.out _ _ trivial (fun hHeld13 => ?_)
          clear hK K hHeld7
          set_option linter.unusedSimpArgs false in try simp only [Act.put, List.getElem_toArray, List.getElem_cons_succ, List.getElem_cons_zero, List.setIfInBounds_toArray, List.set_cons_zero, List.set_cons_succ]
          refine wpAnyH_ready (rs := [1]) (by kernel_rfl) (by simp) ?_
          refine AllReadyH.cons rfl (fun K hK => ?_) (AllReadyH.nil)
          have z14 := bx6.cell 0
          simp at z14
          go_simp
          refine hK.out _ _ trivial (fun hHeld15 => ?_)
          clear hK K hHeld13
          set_option linter.unusedSimpArgs false in try simp only [Act.put, List.getElem_toArray, List.getElem_cons_succ, List.getElem_cons_zero, List.setIfInBounds_toArray, List.set_cons_zero, List.set_cons_succ]
          refine wpAnyH_ready (rs := [6]) (by kernel_rfl) (by simp) ?_
          refine AllReadyH.cons rfl (fun K hK => ?_) (AllReadyH.nil)
          refine Eq.mpr (if_pos (by kernel_rfl)) ?_
          refine wp_app_runS _ _ 24 rfl (.slice (some ⟨g0, 0, none⟩) j c0) (.slice (some ⟨w5.heap.size, 0, none⟩) 1 1) rfl rfl (.slice (some ⟨g', 0, none⟩) (j + 1) c') w6 x3 ?_
          have z6 := hB7.cell 0
          have f6 := hB7.frozen 0
          simp at z6
          refine hK.out _ _ trivial (fun hHeld16 => ?_)
          clear hK K hHeld15
          set_option linter.unusedSimpArgs false in try simp only [Act.put, List.getElem_toArray, List.getElem_cons_succ, List.getElem_cons_zero, List.setIfInBounds_toArray, List.set_cons_zero, List.set_cons_succ]
          refine wpAnyH_take (i := 7) (v := ?_) rfl (by kernel_rfl) (by kernel_rfl) (by kernel_rfl) (fun _ _ _ h => h) (Or.inl ⟨by kernel_rfl, ?_⟩) (by assumption) ?_
          rotate_left
          · intro w9 hS9; (try dsimp only at hS9); go_simp; (try with_reducible rfl)
          set_option linter.unusedSimpArgs false in try simp only [Act.put, List.getElem_toArray, List.getElem_cons_succ, List.getElem_cons_zero, List.setIfInBounds_toArray, List.set_cons_zero, List.set_cons_succ]
          refine wpAnyH_ready (rs := [8]) (by kernel_rfl) (by simp) ?_
          refine AllReadyH.cons rfl (fun K hK => ?_) (AllReadyH.nil)
          go_simp
          refine hK.out _ _ trivial (fun hHeld17 => ?_)
          clear hK K hHeld16
          set_option linter.unusedSimpArgs false in try simp only [Act.put, List.getElem_toArray, List.getElem_cons_succ, List.getElem_cons_zero, List.setIfInBounds_toArray, List.set_cons_zero, List.set_cons_succ]
          refine wpAnyH_done (by kernel_rfl) ?_ _
          have HA := Lib.hid hA
          clear hA hB7 z6 f6 bx6
          go_wp2_with fail
          go_roundw
          case rel => exact ⟨j + 1, g', c', zs ++ [y - 2], by go_num, by omega, HA.out.more (by omega)⟩
          case measure => simp [intOf]; omega
    · have hj4 : j = 4 := by omega
      have i3 : ¬ (j : Int) < 4 := by omega
      have hM2 := hM.out
      rw [hj4] at hM2
      have HT := Lib.hid (hM2.more (show k + 2 * 4 ≤ k + 8 by omega))
      clear hM hM2 hj hlt hj4
      go_wp2_with fail
      go_loopw [5] (fun i wr => ∃ (j g1 c1 : Nat) (ys : List Int), i = .int .i64 j ∧ j ≤ 8 ∧ Hid (StS wc g (k + 8 + 2 * j) b g0 4 c0 g1 j c1 zs ys wr)) (fun i _ => (8 - intOf i).toNat)
      case atStart => exact ⟨0, _, 0, [], rfl, by omega, HT⟩
      case round =>
        clear HT
        rename World => wr
        obtain ⟨j, g1, c1, ys, rfl, hj, hM⟩ := hrel
        by_cases hlt : j < 8
        · have i3 : (j : Int) < 8 := by omega
          go_wp2_with fail
          have HD := Lib.hid (hM.out.keep ((Below.refl wr.heap.size wr).drew))
          clear hM
          refine wp_region_held_drew (S := fun _ => True) (by kernel_rfl) trivial ?_
          intro hHeld0
          generalize wr.drew = W0 at HD ⊢
          refine wpAnyH_take (i := 0) (v := ?_) rfl (by kernel_rfl) (by kernel_rfl) (by kernel_rfl) (fun _ _ _ h => h) (Or.inl ⟨by kernel_rfl, ?_⟩) (by assumption) ?_
          rotate_left
          · intro w9 hS9; (try dsimp only at hS9); go_simp; (try with_reducible rfl)
          set_option linter.unusedSimpArgs false in try simp only [Act.put, List.getElem_toArray, List.getElem_cons_succ, List.getElem_cons_zero, List.setIfInBounds_toArray, List.set_cons_zero, List.set_cons_succ]
          refine wpAnyH_take (i := 2) (v := ?_) rfl (by kernel_rfl) (by kernel_rfl) (by kernel_rfl) (fun _ _ _ h => h) (Or.inl ⟨by kernel_rfl, ?_⟩) (by assumption) ?_
          rotate_left
          · intro w9 hS9; (try dsimp only at hS9); go_simp; (try with_reducible rfl)
          set_option linter.unusedSimpArgs false in try simp only [Act.put, List.getElem_toArray, List.getElem_cons_succ, List.getElem_cons_zero, List.setIfInBounds_toArray, List.set_cons_zero, List.set_cons_succ]
          refine wpAnyH_ready (rs := [1, 3]) (by kernel_rfl) (by simp) ?_
          refine AllReadyH.cons rfl (fun K hK => ?_) (AllReadyH.cons rfl (fun K hK => ?_) (AllReadyH.nil))
          · have z1 := HD.out.box.cell 1
            simp at z1
            go_simp
            refine hK.out _ _ trivial (fun hHeld2 => ?_)
            clear hK K hHeld0
            set_option linter.unusedSimpArgs false in try simp only [Act.put, List.getElem_toArray, List.getElem_cons_succ, List.getElem_cons_zero, List.setIfInBounds_toArray, List.set_cons_zero, List.set_cons_succ]
            refine wpAnyH_ready (rs := [3]) (by kernel_rfl) (by simp) ?_
            refine AllReadyH.cons rfl (fun K hK => ?_) (AllReadyH.nil)
            go_simp
            go_wp2_with (go_at_call 31; refine (pick_c g _ 9 _ HD.out.src (by omega) (by omega) (by omega)).mono ?_; rintro e w5 ⟨y, rfl, hy0, hy1, hs5, hg5⟩)
            have hS5 := HD.out.pick hg5 hs5
            have bx5 := hS5.box
            have e1 : IntKind.i64.wrap (y - 2) = y - 2 := IntWalk.i64_in _ (by omega)
            refine hK.out _ _ trivial (fun hHeld3 => ?_)
            clear hK K hHeld2
            set_option linter.unusedSimpArgs false in try simp only [Act.put, List.getElem_toArray, List.getElem_cons_succ, List.getElem_cons_zero, List.setIfInBounds_toArray, List.set_cons_zero, List.set_cons_succ]
            refine wpAnyH_take (i := 4) (v := ?_) rfl (by kernel_rfl) (by kernel_rfl) (by kernel_rfl) (fun _ _ _ h => h) (Or.inl ⟨by kernel_rfl, ?_⟩) (by assumption) ?_
            rotate_left
            · intro w9 hS9; (try dsimp only at hS9); go_simp; (try with_reducible rfl)
            set_option linter.unusedSimpArgs false in try simp only [Act.put, List.getElem_toArray, List.getElem_cons_succ, List.getElem_cons_zero, List.setIfInBounds_toArray, List.set_cons_zero, List.set_cons_succ]
            refine wpAnyH_ready (rs := [5]) (by kernel_rfl) (by simp) ?_
            refine AllReadyH.cons rfl (fun K hK => ?_) (AllReadyH.nil)
            go_simp
            obtain ⟨g', c', w6, x3, r3, g3, s3⟩ := app_num (y - 2) hS5.r1 hS5.grow.size (by omega)
            have hb6 := bnew w5 (.cells #[.int .i64 (y - 2)] 2)
            have bx6 := bx5.next hb6
            have hB7 := bx6.by_grown g3 (own_ne_blk hS5.r1 bx5 (by decide))
            have hA := hS5.app1 (Wa := w5.alloc (.cells #[.int .i64 (y - 2)] 2)) hb6 g3 (s3.imp (fun e => Option.some.inj e) id) r3 (by omega)
            generalize w5.alloc (.cells #[.int .i64 (y - 2)] 2) = V at x3 bx6 ⊢
            clear g3 s3 r3 hS5 hs5 hg5
            refine hK.out _ _ trivial (fun hHeld4 => ?_)
            clear hK K hHeld3
            set_option linter.unusedSimpArgs false in try simp only [Act.put, List.getElem_toArray, List.getElem_cons_succ, List.getElem_cons_zero, List.setIfInBounds_toArray, List.set_cons_zero, List.set_cons_succ]
            refine wpAnyH_ready (rs := [6]) (by kernel_rfl) (by simp) ?_
            refine AllReadyH.cons rfl (fun K hK => ?_) (AllReadyH.nil)
            refine Eq.mpr (if_pos (by kernel_rfl)) ?_
            refine wp_app_runS _ _ 24 rfl (.slice (some ⟨g1, 0, none⟩) j c1) (.slice (some ⟨w5.heap.size, 0, none⟩) 1 1) rfl rfl (.slice (some ⟨g', 0, none⟩) (j + 1) c') w6 x3 ?_
            have z6 := hB7.cell 1
            have f6 := hB7.frozen 1
            simp at z6
            refine hK.out _ _ trivial (fun hHeld5 => ?_)
            clear hK K hHeld4
            set_option linter.unusedSimpArgs false in try simp only [Act.put, List.getElem_toArray, List.getElem_cons_succ, List.getElem_cons_zero, List.setIfInBounds_toArray, List.set_cons_zero, List.set_cons_succ]
            refine wpAnyH_take (i := 7) (v := ?_) rfl (by kernel_rfl) (by kernel_rfl) (by kernel_rfl) (fun _ _ _ h => h) (Or.inl ⟨by kernel_rfl, ?_⟩) (by assumption) ?_
            rotate_left
            · intro w9 hS9; (try dsimp only at hS9); go_simp; (try with_reducible rfl)
            set_option linter.unusedSimpArgs false in try simp only [Act.put, List.getElem_toArray, List.getElem_cons_succ, List.getElem_cons_zero, List.setIfInBounds_toArray, List.set_cons_zero, List.set_cons_succ]
            refine wpAnyH_ready (rs := [8]) (by kernel_rfl) (by simp) ?_
            refine AllReadyH.cons rfl (fun K hK => ?_) (AllReadyH.nil)
            go_simp
            refine hK.out _ _ trivial (fun hHeld6 => ?_)
            clear hK K hHeld5
            set_option linter.unusedSimpArgs false in try simp only [Act.put, List.getElem_toArray, List.getElem_cons_succ, List.getElem_cons_zero, List.setIfInBounds_toArray, List.set_cons_zero, List.set_cons_succ]
            refine wpAnyH_done (by kernel_rfl) ?_ _
            have HA := Lib.hid hA
            clear hA hB7 z6 f6 bx6
            go_wp2_with fail
            go_roundw
            case rel => exact ⟨j + 1, g', c', ys ++ [y - 2], by go_num, by omega, HA.out.more (by omega)⟩
            case measure => simp [intOf]; omega
          · go_simp
            go_wp2_with (go_at_call 31; refine (pick_c g _ 9 _ HD.out.src (by omega) (by omega) (by omega)).mono ?_; rintro e w5 ⟨y, rfl, hy0, hy1, hs5, hg5⟩)
            have hS5 := HD.out.pick hg5 hs5
            have bx5 := hS5.box
            have e1 : IntKind.i64.wrap (y - 2) = y - 2 := IntWalk.i64_in _ (by omega)
            refine hK.out _ _ trivial (fun hHeld7 => ?_)
            clear hK K hHeld0
            set_option linter.unusedSimpArgs false in try simp only [Act.put, List.getElem_toArray, List.getElem_cons_succ, List.getElem_cons_zero, List.setIfInBounds_toArray, List.set_cons_zero, List.set_cons_succ]
            refine wpAnyH_take (i := 4) (v := ?_) rfl (by kernel_rfl) (by kernel_rfl) (by kernel_rfl) (fun _ _ _ h => h) (Or.inl ⟨by kernel_rfl, ?_⟩) (by assumption) ?_
            rotate_left
            · intro w9 hS9; (try dsimp only at hS9); go_simp; (try with_reducible rfl)
            set_option linter.unusedSimpArgs false in try simp only [Act.put, List.getElem_toArray, List.getElem_cons_succ, List.getElem_cons_zero, List.setIfInBounds_toArray, List.set_cons_zero, List.set_cons_succ]
            refine wpAnyH_ready (rs := [1, 5]) (by kernel_rfl) (by simp) ?_
            refine AllReadyH.cons rfl (fun K hK => ?_) (AllReadyH.cons rfl (fun K hK => ?_) (AllReadyH.nil))
            · have z8 := bx5.cell 1
              simp at z8
              go_simp
              refine hK.out _ _ trivial (fun hHeld9 => ?_)
              clear hK K hHeld7
              set_option linter.unusedSimpArgs false in try simp only [Act.put, List.getElem_toArray, List.getElem_cons_succ, List.getElem_cons_zero, List.setIfInBounds_toArray, List.set_cons_zero, List.set_cons_succ]
              refine wpAnyH_ready (rs := [5]) (by kernel_rfl) (by simp) ?_
              refine AllReadyH.cons rfl (fun K hK => ?_) (AllReadyH.nil)
              go_simp
              obtain ⟨g', c', w6, x3, r3, g3, s3⟩ := app_num (y - 2) hS5.r1 hS5.grow.size (by omega)
              have hb6 := bnew w5 (.cells #[.int .i64 (y - 2)] 2)
              have bx6 := bx5.next hb6
              have hB7 := bx6.by_grown g3 (own_ne_blk hS5.r1 bx5 (by decide))
              have hA := hS5.app1 (Wa := w5.alloc (.cells #[.int .i64 (y - 2)] 2)) hb6 g3 (s3.imp (fun e => Option.some.inj e) id) r3 (by omega)
              generalize w5.alloc (.cells #[.int .i64 (y - 2)] 2) = V at x3 bx6 ⊢
              clear g3 s3 r3 hS5 hs5 hg5
              refine hK.out _ _ trivial (fun hHeld10 => ?_)
              clear hK K hHeld9
              set_option linter.unusedSimpArgs false in try simp only [Act.put, List.getElem_toArray, List.getElem_cons_succ, List.getElem_cons_zero, List.setIfInBounds_toArray, List.set_cons_zero, List.set_cons_succ]
              refine wpAnyH_ready (rs := [6]) (by kernel_rfl) (by simp) ?_
              refine AllReadyH.cons rfl (fun K hK => ?_) (AllReadyH.nil)
              refine Eq.mpr (if_pos (by kernel_rfl)) ?_
              refine wp_app_runS _ _ 24 rfl (.slice (some ⟨g1, 0, none⟩) j c1) (.slice (some ⟨w5.heap.size, 0, none⟩) 1 1) rfl rfl (.slice (some ⟨g', 0, none⟩) (j + 1) c') w6 x3 ?_
              have z6 := hB7.cell 1
              have f6 := hB7.frozen 1
              simp at z6
              refine hK.out _ _ trivial (fun hHeld11 => ?_)
              clear hK K hHeld10
              set_option linter.unusedSimpArgs false in try simp only [Act.put, List.getElem_toArray, List.getElem_cons_succ, List.getElem_cons_zero, List.setIfInBounds_toArray, List.set_cons_zero, List.set_cons_succ]
              refine wpAnyH_take (i := 7) (v := ?_) rfl (by kernel_rfl) (by kernel_rfl) (by kernel_rfl) (fun _ _ _ h => h) (Or.inl ⟨by kernel_rfl, ?_⟩) (by assumption) ?_
              rotate_left
              · intro w9 hS9; (try dsimp only at hS9); go_simp; (try with_reducible rfl)
              set_option linter.unusedSimpArgs false in try simp only [Act.put, List.getElem_toArray, List.getElem_cons_succ, List.getElem_cons_zero, List.setIfInBounds_toArray, List.set_cons_zero, List.set_cons_succ]
              refine wpAnyH_ready (rs := [8]) (by kernel_rfl) (by simp) ?_
              refine AllReadyH.cons rfl (fun K hK => ?_) (AllReadyH.nil)
              go_simp
              refine hK.out _ _ trivial (fun hHeld12 => ?_)
              clear hK K hHeld11
              set_option linter.unusedSimpArgs false in try simp only [Act.put, List.getElem_toArray, List.getElem_cons_succ, List.getElem_cons_zero, List.setIfInBounds_toArray, List.set_cons_zero, List.set_cons_succ]
              refine wpAnyH_done (by kernel_rfl) ?_ _
              have HA := Lib.hid hA
              clear hA hB7 z6 f6 bx6
              go_wp2_with fail
              go_roundw
              case rel => exact ⟨j + 1, g', c', ys ++ [y - 2], by go_num, by omega, HA.out.more (by omega)⟩
              case measure => simp [intOf]; omega
            · go_simp
              obtain ⟨g', c', w6, x3, r3, g3, s3⟩ := app_num (y - 2) hS5.r1 hS5.grow.size (by omega)
              have hb6 := bnew w5 (.cells #[.int .i64 (y - 2)] 2)
              have bx6 := bx5.next hb6
              have hB7 := bx6.by_grown g3 (own_ne_blk hS5.r1 bx5 (by decide))
              have hA := hS5.app1 (Wa := w5.alloc (.cells #[.int .i64 (y - 2)] 2)) hb6 g3 (s3.imp (fun e => Option.some.inj e) id) r3 (by omega)
              generalize w5.alloc (.cells #[.int .i64 (y - 2)] 2) = V at x3 bx6 ⊢
              clear g3 s3 r3 hS5 hs5 hg5
              refine hK.out _ _ trivial (fun hHeld13 => ?_)
              clear hK K hHeld7
              set_option linter.unusedSimpArgs false in try simp only [Act.put, List.getElem_toArray, List.getElem_cons_succ, List.getElem_cons_zero, List.setIfInBounds_toArray, List.set_cons_zero, List.set_cons_succ]
              refine wpAnyH_ready (rs := [1]) (by kernel_rfl) (by simp) ?_
              refine AllReadyH.cons rfl (fun K hK => ?_) (AllReadyH.nil)
              have z14 := bx6.cell 1
              simp at z14
              go_simp
              refine hK.out _ _ trivial (fun hHeld15 => ?_)
              clear hK K hHeld13
              set_option linter.unusedSimpArgs false in try simp only [Act.put, List.getElem_toArray, List.getElem_cons_succ, List.getElem_cons_zero, List.setIfInBounds_toArray, List.set_cons_zero, List.set_cons_succ]
              refine wpAnyH_ready (rs := [6]) (by kernel_rfl) (by simp) ?_
              refine AllReadyH.cons rfl (fun K hK => ?_) (AllReadyH.nil)
              refine Eq.mpr (if_pos (by kernel_rfl)) ?_
              refine wp_app_runS _ _ 24 rfl (.slice (some ⟨g1, 0, none⟩) j c1) (.slice (some ⟨w5.heap.size, 0, none⟩) 1 1) rfl rfl (.slice (some ⟨g', 0, none⟩) (j + 1) c') w6 x3 ?_
              have z6 := hB7.cell 1
              have f6 := hB7.frozen 1
              simp at z6
              refine hK.out _ _ trivial (fun hHeld16 => ?_)
              clear hK K hHeld15
              set_option linter.unusedSimpArgs false in try simp only [Act.put, List.getElem_toArray, List.getElem_cons_succ, List.getElem_cons_zero, List.setIfInBounds_toArray, List.set_cons_zero, List.set_cons_succ]
              refine wpAnyH_take (i := 7) (v := ?_) rfl (by kernel_rfl) (by kernel_rfl) (by kernel_rfl) (fun _ _ _ h => h) (Or.inl ⟨by kernel_rfl, ?_⟩) (by assumption) ?_
              rotate_left
              · intro w9 hS9; (try dsimp only at hS9); go_simp; (try with_reducible rfl)
              set_option linter.unusedSimpArgs false in try simp only [Act.put, List.getElem_toArray, List.getElem_cons_succ, List.getElem_cons_zero, List.setIfInBounds_toArray, List.set_cons_zero, List.set_cons_succ]
              refine wpAnyH_ready (rs := [8]) (by kernel_rfl) (by simp) ?_
              refine AllReadyH.cons rfl (fun K hK => ?_) (AllReadyH.nil)
              go_simp
              refine hK.out _ _ trivial (fun hHeld17 => ?_)
              clear hK K hHeld16
              set_option linter.unusedSimpArgs false in try simp only [Act.put, List.getElem_toArray, List.getElem_cons_succ, List.getElem_cons_zero, List.setIfInBounds_toArray, List.set_cons_zero, List.set_cons_succ]
              refine wpAnyH_done (by kernel_rfl) ?_ _
              have HA := Lib.hid hA
              clear hA hB7 z6 f6 bx6
              go_wp2_with fail
              go_roundw
              case rel => exact ⟨j + 1, g', c', ys ++ [y - 2], by go_num, by omega, HA.out.more (by omega)⟩
              case measure => simp [intOf]; omega
        · obtain rfl : j = 8 := by omega
          clear hj hlt
          go_wp2_with fail
          refine (one_c g _ 8 _ hM.out.src (by omega) (by omega) (by omega)).mono ?_
          rintro e w9 ⟨t, rfl, hs9, hg9⟩
          have HT := Lib.hid ((hM.out.pick hg9 hs9).more (show _ ≤ k + 28 by omega))
          clear hM hs9 hg9
          cases t with
          | false =>
            have HA := Lib.hid (HT.out.more (show k + 28 ≤ k + 30 by omega))
            clear HT
            have RB := hR0.by_grown HA.out.grow (fun e => by injection e; omega)
            have k0 : w9.cell? ⟨b, 0, none⟩ = some (.slice (some ⟨g0, 0, none⟩) 4 c0) := HA.out.box.cell 0
            have k1 : w9.cell? ⟨b, 1, none⟩ = some (.slice (some ⟨g1, 0, none⟩) 8 c1) := HA.out.box.cell 1
            have k2 : w9.cell? ⟨rb, 0, none⟩ = some (.slice none 0 0) := RB.cell 0
            have k3 : w9.cell? ⟨rb, 1, none⟩ = some (.slice none 0 0) := RB.cell 1
            have k4 := RB.frozen 0
            have k5 := RB.frozen 1
            have RZ := (RB.set 0 (.slice (some ⟨g0, 0, none⟩) 4 c0)).set 1 (.slice (some ⟨g1, 0, none⟩) 8 c1)
            have s0 : ((w9.setCell ⟨rb, 0, none⟩ (.slice (some ⟨g0, 0, none⟩) 4 c0)).setCell ⟨rb, 1, none⟩ (.slice (some ⟨g1, 0, none⟩) 8 c1)).cell? ⟨rb, 0, none⟩ = some (.slice (some ⟨g0, 0, none⟩) 4 c0) := by rw [RZ.cell 0]; simp
            have s1 : ((w9.setCell ⟨rb, 0, none⟩ (.slice (some ⟨g0, 0, none⟩) 4 c0)).setCell ⟨rb, 1, none⟩ (.slice (some ⟨g1, 0, none⟩) 8 c1)).cell? ⟨rb, 1, none⟩ = some (.slice (some ⟨g1, 0, none⟩) 8 c1) := by rw [RZ.cell 1]; simp
            have hQ := HA.out.fin hw0 (rb := rb) (by have := hrb.out; omega) (by omega) (by have := hrb.out; omega)
            clear RB RZ HA
            go_wp2_with fail
            exact bodyPost_ret (v := .agg #[.slice (some ⟨g0, 0, none⟩) 4 c0, .slice (some ⟨g1, 0, none⟩) 8 c1]) (by simp [results, Tryd.results47, go_sem, s0, s1]) rfl hQ
          | true =>
            go_wp2_with fail
            have HD := Lib.hid (HT.out.keep ((Below.refl w9.heap.size w9).drew))
            clear HT
            refine wp_region_held_drew (S := fun _ => True) (by kernel_rfl) trivial ?_
            intro hHeld0
            generalize w9.drew = W0 at HD ⊢
            refine wpAnyH_take (i := 0) (v := ?_) rfl (by kernel_rfl) (by kernel_rfl) (by kernel_rfl) (fun _ _ _ h => h) (Or.inl ⟨by kernel_rfl, ?_⟩) (by assumption) ?_
            rotate_left
            · intro w9 hS9; (try dsimp only at hS9); go_simp; (try with_reducible rfl)
            set_option linter.unusedSimpArgs false in try simp only [Act.put, List.getElem_toArray, List.getElem_cons_succ, List.getElem_cons_zero, List.setIfInBounds_toArray, List.set_cons_zero, List.set_cons_succ]
            refine wpAnyH_take (i := 2) (v := ?_) rfl (by kernel_rfl) (by kernel_rfl) (by kernel_rfl) (fun _ _ _ h => h) (Or.inl ⟨by kernel_rfl, ?_⟩) (by assumption) ?_
            rotate_left
            · intro w9 hS9; (try dsimp only at hS9); go_simp; (try with_reducible rfl)
            set_option linter.unusedSimpArgs false in try simp only [Act.put, List.getElem_toArray, List.getElem_cons_succ, List.getElem_cons_zero, List.setIfInBounds_toArray, List.set_cons_zero, List.set_cons_succ]
            refine wpAnyH_ready (rs := [1, 3]) (by kernel_rfl) (by simp) ?_
            refine AllReadyH.cons rfl (fun K hK => ?_) (AllReadyH.cons rfl (fun K hK => ?_) (AllReadyH.nil))
            · have z1 := HD.out.box.cell 0
              simp at z1
              go_simp
              refine hK.out _ _ trivial (fun hHeld2 => ?_)
              clear hK K hHeld0
              set_option linter.unusedSimpArgs false in try simp only [Act.put, List.getElem_toArray, List.getElem_cons_succ, List.getElem_cons_zero, List.setIfInBounds_toArray, List.set_cons_zero, List.set_cons_succ]
              refine wpAnyH_ready (rs := [3]) (by kernel_rfl) (by simp) ?_
              refine AllReadyH.cons rfl (fun K hK => ?_) (AllReadyH.nil)
              go_simp
              have hb6 := bnew W0 (.cells #[.int .i64 1000000000, .int .i64 (-1000000000)] 2)
              have hS6 := HD.out.keep hb6
              have hrow := row_two W0 1000000000 (-1000000000)
              have hq : g ≠ W0.heap.size := by have := HD.out.src.lt; omega
              generalize W0.alloc (.cells #[.int .i64 1000000000, .int .i64 (-1000000000)] 2) = V at hS6 hrow ⊢
              have bx6 := hS6.box
              refine hK.out _ _ trivial (fun hHeld3 => ?_)
              clear hK K hHeld2
              set_option linter.unusedSimpArgs false in try simp only [Act.put, List.getElem_toArray, List.getElem_cons_succ, List.getElem_cons_zero, List.setIfInBounds_toArray, List.set_cons_zero, List.set_cons_succ]
              refine wpAnyH_ready (rs := [4]) (by kernel_rfl) (by simp) ?_
              refine AllReadyH.cons rfl (fun K hK => ?_) (AllReadyH.nil)
              go_simp
              go_wp2_with (go_at_call 66; refine (among_c g _ (some ⟨W0.heap.size, 0, none⟩) 2 2 _ _ _ hS6.src (by omega) hrow rfl (by omega) (by omega) (fun b off e => by injection e with e; injection e with e; omega)).mono ?_; rintro e w7 ⟨y, rfl, hy, hs7, hg7⟩)
              have hyb : -1000000000 ≤ y ∧ y ≤ 1000000000 := by rcases List.mem_cons.1 hy with rfl | hy; omega; obtain rfl := List.mem_singleton.1 hy; omega
              have hS7 := hS6.pick hg7 hs7
              have bx7 := hS7.box
              refine hK.out _ _ trivial (fun hHeld4 => ?_)
              clear hK K hHeld3
              set_option linter.unusedSimpArgs false in try simp only [Act.put, List.getElem_toArray, List.getElem_cons_succ, List.getElem_cons_zero, List.setIfInBounds_toArray, List.set_cons_zero, List.set_cons_succ]
              refine wpAnyH_take (i := 5) (v := ?_) rfl (by kernel_rfl) (by kernel_rfl) (by kernel_rfl) (fun _ _ _ h => h) (Or.inl ⟨by kernel_rfl, ?_⟩) (by assumption) ?_
              rotate_left
              · intro w9 hS9; (try dsimp only at hS9); go_simp; (try with_reducible rfl)
              set_option linter.unusedSimpArgs false in try simp only [Act.put, List.getElem_toArray, List.getElem_cons_succ, List.getElem_cons_zero, List.setIfInBounds_toArray, List.set_cons_zero, List.set_cons_succ]
              refine wpAnyH_ready (rs := [6]) (by kernel_rfl) (by simp) ?_
              refine AllReadyH.cons rfl (fun K hK => ?_) (AllReadyH.nil)
              have z6 := hS7.r0.cellAt 0 (by omega)
              obtain ⟨z0, hz0⟩ : ∃ z0, (zs.map ic)[0]? = some z0 := ⟨_, List.getElem?_eq_getElem (by rw [List.length_map, hS7.l0]; omega)⟩
              rw [hz0] at z6
              have f6 : w7.frozen? ⟨g0, 0, none⟩ = false := own_frozen hS7.r0
              have hA := hS7.put hyb
              go_simp
              refine hK.out _ _ trivial (fun hHeld5 => ?_)
              clear hK K hHeld4
              set_option linter.unusedSimpArgs false in try simp only [Act.put, List.getElem_toArray, List.getElem_cons_succ, List.getElem_cons_zero, List.setIfInBounds_toArray, List.set_cons_zero, List.set_cons_succ]
              refine wpAnyH_done (by kernel_rfl) ?_ _
              have HA := Lib.hid (hA.more (show _ ≤ k + 30 by omega))
              clear hA
              have RB := hR0.by_grown HA.out.grow (fun e => by injection e; omega)
              have k0 : (w7.setCell ⟨g0, 0, none⟩ (.int .i64 y)).cell? ⟨b, 0, none⟩ = some (.slice (some ⟨g0, 0, none⟩) 4 c0) := HA.out.box.cell 0
              have k1 : (w7.setCell ⟨g0, 0, none⟩ (.int .i64 y)).cell? ⟨b, 1, none⟩ = some (.slice (some ⟨g1, 0, none⟩) 8 c1) := HA.out.box.cell 1
              have k2 : (w7.setCell ⟨g0, 0, none⟩ (.int .i64 y)).cell? ⟨rb, 0, none⟩ = some (.slice none 0 0) := RB.cell 0
              have k3 : (w7.setCell ⟨g0, 0, none⟩ (.int .i64 y)).cell? ⟨rb, 1, none⟩ = some (.slice none 0 0) := RB.cell 1
              have k4 := RB.frozen 0
              have k5 := RB.frozen 1
              generalize (w7.setCell ⟨g0, 0, none⟩ (.int .i64 y)) = WW at RB k0 k1 k2 k3 k4 k5 HA ⊢
              have RZ := (RB.set 0 (.slice (some ⟨g0, 0, none⟩) 4 c0)).set 1 (.slice (some ⟨g1, 0, none⟩) 8 c1)
              have s0 : ((WW.setCell ⟨rb, 0, none⟩ (.slice (some ⟨g0, 0, none⟩) 4 c0)).setCell ⟨rb, 1, none⟩ (.slice (some ⟨g1, 0, none⟩) 8 c1)).cell? ⟨rb, 0, none⟩ = some (.slice (some ⟨g0, 0, none⟩) 4 c0) := by rw [RZ.cell 0]; simp
              have s1 : ((WW.setCell ⟨rb, 0, none⟩ (.slice (some ⟨g0, 0, none⟩) 4 c0)).setCell ⟨rb, 1, none⟩ (.slice (some ⟨g1, 0, none⟩) 8 c1)).cell? ⟨rb, 1, none⟩ = some (.slice (some ⟨g1, 0, none⟩) 8 c1) := by rw [RZ.cell 1]; simp
              have hQ := HA.out.fin hw0 (rb := rb) (by have := hrb.out; omega) (by omega) (by have := hrb.out; omega)
              clear RB RZ HA
              go_wp2_with fail
              exact bodyPost_ret (v := .agg #[.slice (some ⟨g0, 0, none⟩) 4 c0, .slice (some ⟨g1, 0, none⟩) 8 c1]) (by simp [results, Tryd.results47, go_sem, s0, s1]) rfl hQ
            · go_simp
              have hb6 := bnew W0 (.cells #[.int .i64 1000000000, .int .i64 (-1000000000)] 2)
              have hS6 := HD.out.keep hb6
              have hrow := row_two W0 1000000000 (-1000000000)
              have hq : g ≠ W0.heap.size := by have := HD.out.src.lt; omega
              generalize W0.alloc (.cells #[.int .i64 1000000000, .int .i64 (-1000000000)] 2) = V at hS6 hrow ⊢
              have bx6 := hS6.box
              refine hK.out _ _ trivial (fun hHeld6 => ?_)
              clear hK K hHeld0
              set_option linter.unusedSimpArgs false in try simp only [Act.put, List.getElem_toArray, List.getElem_cons_succ, List.getElem_cons_zero, List.setIfInBounds_toArray, List.set_cons_zero, List.set_cons_succ]
              refine wpAnyH_ready (rs := [1, 4]) (by kernel_rfl) (by simp) ?_
              refine AllReadyH.cons rfl (fun K hK => ?_) (AllReadyH.cons rfl (fun K hK => ?_) (AllReadyH.nil))
              · have z7 := bx6.cell 0
                simp at z7
                go_simp
                refine hK.out _ _ trivial (fun hHeld8 => ?_)
                clear hK K hHeld6
                set_option linter.unusedSimpArgs false in try simp only [Act.put, List.getElem_toArray, List.getElem_cons_succ, List.getElem_cons_zero, List.setIfInBounds_toArray, List.set_cons_zero, List.set_cons_succ]
                refine wpAnyH_ready (rs := [4]) (by kernel_rfl) (by simp) ?_
                refine AllReadyH.cons rfl (fun K hK => ?_) (AllReadyH.nil)
                go_simp
                go_wp2_with (go_at_call 66; refine (among_c g _ (some ⟨W0.heap.size, 0, none⟩) 2 2 _ _ _ hS6.src (by omega) hrow rfl (by omega) (by omega) (fun b off e => by injection e with e; injection e with e; omega)).mono ?_; rintro e w7 ⟨y, rfl, hy, hs7, hg7⟩)
                have hyb : -1000000000 ≤ y ∧ y ≤ 1000000000 := by rcases List.mem_cons.1 hy with rfl | hy; omega; obtain rfl := List.mem_singleton.1 hy; omega
                have hS7 := hS6.pick hg7 hs7
                have bx7 := hS7.box
                refine hK.out _ _ trivial (fun hHeld9 => ?_)
                clear hK K hHeld8
                set_option linter.unusedSimpArgs false in try simp only [Act.put, List.getElem_toArray, List.getElem_cons_succ, List.getElem_cons_zero, List.setIfInBounds_toArray, List.set_cons_zero, List.set_cons_succ]
                refine wpAnyH_take (i := 5) (v := ?_) rfl (by kernel_rfl) (by kernel_rfl) (by kernel_rfl) (fun _ _ _ h => h) (Or.inl ⟨by kernel_rfl, ?_⟩) (by assumption) ?_
                rotate_left
                · intro w9 hS9; (try dsimp only at hS9); go_simp; (try with_reducible rfl)
                set_option linter.unusedSimpArgs false in try simp only [Act.put, List.getElem_toArray, List.getElem_cons_succ, List.getElem_cons_zero, List.setIfInBounds_toArray, List.set_cons_zero, List.set_cons_succ]
                refine wpAnyH_ready (rs := [6]) (by kernel_rfl) (by simp) ?_
                refine AllReadyH.cons rfl (fun K hK => ?_) (AllReadyH.nil)
                have z6 := hS7.r0.cellAt 0 (by omega)
                obtain ⟨z0, hz0⟩ : ∃ z0, (zs.map ic)[0]? = some z0 := ⟨_, List.getElem?_eq_getElem (by rw [List.length_map, hS7.l0]; omega)⟩
                rw [hz0] at z6
                have f6 : w7.frozen? ⟨g0, 0, none⟩ = false := own_frozen hS7.r0
                have hA := hS7.put hyb
                go_simp
                refine hK.out _ _ trivial (fun hHeld10 => ?_)
                clear hK K hHeld9
                set_option linter.unusedSimpArgs false in try simp only [Act.put, List.getElem_toArray, List.getElem_cons_succ, List.getElem_cons_zero, List.setIfInBounds_toArray, List.set_cons_zero, List.set_cons_succ]
                refine wpAnyH_done (by kernel_rfl) ?_ _
                have HA := Lib.hid (hA.more (show _ ≤ k + 30 by omega))
                clear hA
                have RB := hR0.by_grown HA.out.grow (fun e => by injection e; omega)
                have k0 : (w7.setCell ⟨g0, 0, none⟩ (.int .i64 y)).cell? ⟨b, 0, none⟩ = some (.slice (some ⟨g0, 0, none⟩) 4 c0) := HA.out.box.cell 0
                have k1 : (w7.setCell ⟨g0, 0, none⟩ (.int .i64 y)).cell? ⟨b, 1, none⟩ = some (.slice (some ⟨g1, 0, none⟩) 8 c1) := HA.out.box.cell 1
                have k2 : (w7.setCell ⟨g0, 0, none⟩ (.int .i64 y)).cell? ⟨rb, 0, none⟩ = some (.slice none 0 0) := RB.cell 0
                have k3 : (w7.setCell ⟨g0, 0, none⟩ (.int .i64 y)).cell? ⟨rb, 1, none⟩ = some (.slice none 0 0) := RB.cell 1
                have k4 := RB.frozen 0
                have k5 := RB.frozen 1
                generalize (w7.setCell ⟨g0, 0, none⟩ (.int .i64 y)) = WW at RB k0 k1 k2 k3 k4 k5 HA ⊢
                have RZ := (RB.set 0 (.slice (some ⟨g0, 0, none⟩) 4 c0)).set 1 (.slice (some ⟨g1, 0, none⟩) 8 c1)
                have s0 : ((WW.setCell ⟨rb, 0, none⟩ (.slice (some ⟨g0, 0, none⟩) 4 c0)).setCell ⟨rb, 1, none⟩ (.slice (some ⟨g1, 0, none⟩) 8 c1)).cell? ⟨rb, 0, none⟩ = some (.slice (some ⟨g0, 0, none⟩) 4 c0) := by rw [RZ.cell 0]; simp
                have s1 : ((WW.setCell ⟨rb, 0, none⟩ (.slice (some ⟨g0, 0, none⟩) 4 c0)).setCell ⟨rb, 1, none⟩ (.slice (some ⟨g1, 0, none⟩) 8 c1)).cell? ⟨rb, 1, none⟩ = some (.slice (some ⟨g1, 0, none⟩) 8 c1) := by rw [RZ.cell 1]; simp
                have hQ := HA.out.fin hw0 (rb := rb) (by have := hrb.out; omega) (by omega) (by have := hrb.out; omega)
                clear RB RZ HA
                go_wp2_with fail
                exact bodyPost_ret (v := .agg #[.slice (some ⟨g0, 0, none⟩) 4 c0, .slice (some ⟨g1, 0, none⟩) 8 c1]) (by simp [results, Tryd.results47, go_sem, s0, s1]) rfl hQ
              · go_simp
                go_wp2_with (go_at_call 66; refine (among_c g _ (some ⟨W0.heap.size, 0, none⟩) 2 2 _ _ _ hS6.src (by omega) hrow rfl (by omega) (by omega) (fun b off e => by injection e with e; injection e with e; omega)).mono ?_; rintro e w7 ⟨y, rfl, hy, hs7, hg7⟩)
                have hyb : -1000000000 ≤ y ∧ y ≤ 1000000000 := by rcases List.mem_cons.1 hy with rfl | hy; omega; obtain rfl := List.mem_singleton.1 hy; omega
                have hS7 := hS6.pick hg7 hs7
                have bx7 := hS7.box
                refine hK.out _ _ trivial (fun hHeld11 => ?_)
                clear hK K hHeld6
                set_option linter.unusedSimpArgs false in try simp only [Act.put, List.getElem_toArray, List.getElem_cons_succ, List.getElem_cons_zero, List.setIfInBounds_toArray, List.set_cons_zero, List.set_cons_succ]
                refine wpAnyH_ready (rs := [1]) (by kernel_rfl) (by simp) ?_
                refine AllReadyH.cons rfl (fun K hK => ?_) (AllReadyH.nil)
                have z12 := bx7.cell 0
                simp at z12
                go_simp
                refine hK.out _ _ trivial (fun hHeld13 => ?_)
                clear hK K hHeld11
                set_option linter.unusedSimpArgs false in try simp only [Act.put, List.getElem_toArray, List.getElem_cons_succ, List.getElem_cons_zero, List.setIfInBounds_toArray, List.set_cons_zero, List.set_cons_succ]
                refine wpAnyH_take (i := 5) (v := ?_) rfl (by kernel_rfl) (by kernel_rfl) (by kernel_rfl) (fun _ _ _ h => h) (Or.inl ⟨by kernel_rfl, ?_⟩) (by assumption) ?_
                rotate_left
                · intro w9 hS9; (try dsimp only at hS9); go_simp; (try with_reducible rfl)
                set_option linter.unusedSimpArgs false in try simp only [Act.put, List.getElem_toArray, List.getElem_cons_succ, List.getElem_cons_zero, List.setIfInBounds_toArray, List.set_cons_zero, List.set_cons_succ]
                refine wpAnyH_ready (rs := [6]) (by kernel_rfl) (by simp) ?_
                refine AllReadyH.cons rfl (fun K hK => ?_) (AllReadyH.nil)
                have z6 := hS7.r0.cellAt 0 (by omega)
                obtain ⟨z0, hz0⟩ : ∃ z0, (zs.map ic)[0]? = some z0 := ⟨_, List.getElem?_eq_getElem (by rw [List.length_map, hS7.l0]; omega)⟩
                rw [hz0] at z6
                have f6 : w7.frozen? ⟨g0, 0, none⟩ = false := own_frozen hS7.r0
                have hA := hS7.put hyb
                go_simp
                refine hK.out _ _ trivial (fun hHeld14 => ?_)
                clear hK K hHeld13
                set_option linter.unusedSimpArgs false in try simp only [Act.put, List.getElem_toArray, List.getElem_cons_succ, List.getElem_cons_zero, List.setIfInBounds_toArray, List.set_cons_zero, List.set_cons_succ]
                refine wpAnyH_done (by kernel_rfl) ?_ _
                have HA := Lib.hid (hA.more (show _ ≤ k + 30 by omega))
                clear hA
                have RB := hR0.by_grown HA.out.grow (fun e => by injection e; omega)
                have k0 : (w7.setCell ⟨g0, 0, none⟩ (.int .i64 y)).cell? ⟨b, 0, none⟩ = some (.slice (some ⟨g0, 0, none⟩) 4 c0) := HA.out.box.cell 0
                have k1 : (w7.setCell ⟨g0, 0, none⟩ (.int .i64 y)).cell? ⟨b, 1, none⟩ = some (.slice (some ⟨g1, 0, none⟩) 8 c1) := HA.out.box.cell 1
                have k2 : (w7.setCell ⟨g0, 0, none⟩ (.int .i64 y)).cell? ⟨rb, 0, none⟩ = some (.slice none 0 0) := RB.cell 0
                have k3 : (w7.setCell ⟨g0, 0, none⟩ (.int .i64 y)).cell? ⟨rb, 1, none⟩ = some (.slice none 0 0) := RB.cell 1
                have k4 := RB.frozen 0
                have k5 := RB.frozen 1
                generalize (w7.setCell ⟨g0, 0, none⟩ (.int .i64 y)) = WW at RB k0 k1 k2 k3 k4 k5 HA ⊢
                have RZ := (RB.set 0 (.slice (some ⟨g0, 0, none⟩) 4 c0)).set 1 (.slice (some ⟨g1, 0, none⟩) 8 c1)
                have s0 : ((WW.setCell ⟨rb, 0, none⟩ (.slice (some ⟨g0, 0, none⟩) 4 c0)).setCell ⟨rb, 1, none⟩ (.slice (some ⟨g1, 0, none⟩) 8 c1)).cell? ⟨rb, 0, none⟩ = some (.slice (some ⟨g0, 0, none⟩) 4 c0) := by rw [RZ.cell 0]; simp
                have s1 : ((WW.setCell ⟨rb, 0, none⟩ (.slice (some ⟨g0, 0, none⟩) 4 c0)).setCell ⟨rb, 1, none⟩ (.slice (some ⟨g1, 0, none⟩) 8 c1)).cell? ⟨rb, 1, none⟩ = some (.slice (some ⟨g1, 0, none⟩) 8 c1) := by rw [RZ.cell 1]; simp
                have hQ := HA.out.fin hw0 (rb := rb) (by have := hrb.out; omega) (by omega) (by have := hrb.out; omega)
                clear RB RZ HA
                go_wp2_with fail
                exact bodyPost_ret (v := .agg #[.slice (some ⟨g0, 0, none⟩) 4 c0, .slice (some ⟨g1, 0, none⟩) 8 c1]) (by simp [results, Tryd.results47, go_sem, s0, s1]) rfl hQ
end Go.Proofs.YtffkdidgfeknkaaDoor

/-! What FnSteps draws and compares with: R8Code, R8State, r8Same, r8States. Conditions: at most 2^47 bytes. -/
namespace Go.Proofs.YtffkdidgfeknkaaDoor
set_option linter.unusedVariables false
open Go.RowKit

theorem below_of_grown {w w1 w2 : World} {g : Nat} (hb : Below w.heap.size w w1) (hg : w1.grownBy w2 (some g)) (h : w.heap.size ≤ g) : Below w.heap.size w w2 :=
  hb.grown hg hb.size (fun q hq => by obtain rfl : g = q := Option.some.inj hq; exact h)

/-- Rows of numbers don't lie in a box of another type. -/
theorem inl_far {w : World} {A : Option Addr} {n rb : Nat} {zs : List Int} {cs : Array Value} (h : InL w w.heap.size A n zs) (hR : BlkIs w rb 46 cs) (ht : (cs.all fun v => match v with | .slice .. => true | _ => false) = true) (x y : Value) :
    InL ((w.setCell ⟨rb, 0, none⟩ x).setCell ⟨rb, 1, none⟩ y) ((w.setCell ⟨rb, 0, none⟩ x).setCell ⟨rb, 1, none⟩ y).heap.size A n zs := by
  refine ⟨h.1, fun j hj => ?_⟩
  obtain ⟨b, off, e, hb, hc⟩ := h.2 j hj
  refine ⟨b, off, e, by simpa using hb, ?_⟩
  have hne : b ≠ rb := by
    rintro rfl
    obtain ⟨z, hz⟩ : ∃ z : Int, (zs.map ic)[j]? = some (.int .i64 z) := by
      rw [List.length_map] at hj
      exact ⟨zs[j], by rw [List.getElem?_map, List.getElem?_eq_getElem hj]; rfl⟩
    rw [hz, hR.cell (off + j)] at hc
    have hm : Value.int .i64 z ∈ cs := Array.mem_of_getElem? hc
    rw [Array.all_eq_true_iff_forall_mem] at ht
    have := ht _ hm
    simp at this
  rw [← hc, World.cell?_of_block (Below.heap_setCell _ ⟨rb, 1, none⟩ y b hne), World.cell?_of_block (Below.heap_setCell _ ⟨rb, 0, none⟩ x b hne)]

set_option maxRecDepth 100000 in
set_option maxHeartbeats 1000000 in
theorem R8Code_c (A : Option Addr) (n c : Nat) (zs : List Nat) (w : World) (hrow : Row w w.heap.size A (zs.map bc)) (hz : zs.length = n) (hz2 : ∀ z ∈ zs, z < 256) (hn : n ≤ 140737488355328) :
    Calls Tryd.prog 21 #[.slice A n c] w fun e w' => ∃ A' c' cs, e = .returned (.slice A' cs.length c') ∧ codeB cs = true ∧ InC w' w'.heap.size A' cs.length cs ∧ Below w.heap.size w w' := by
  have H := Lib.hid (l00From_c A n c zs w hrow hz hz2 hn)
  clear hrow hz hz2
  go_enter Tryd.func21, Tryd.ntmps21
  go_wp2_with fail
  refine H.out.mono ?_
  rintro e w1 ⟨g, rfl, hg, hs1, hb1⟩
  obtain ⟨k, hk, HS⟩ : ∃ k, k ≤ 900000 ∧ Hid (Src w1 g k) := ⟨0, by omega, hs1⟩
  have HG := Lib.hid hg
  clear hs1 hg
  go_wp2_with fail
  refine (l07DrawOk_c g k w1 HS.out hk).mono ?_
  rintro e w2 ⟨A', c', cs, rfl, hc, ho, hs2, hg2⟩
  go_wp2_with fail
  go_ret
  exact ⟨A', c', cs, rfl, hc, ho.all, below_of_grown hb1 hg2 (by have := HG.out; omega)⟩

set_option maxRecDepth 100000 in
set_option maxHeartbeats 1000000 in
theorem R8State_c (A : Option Addr) (n c : Nat) (zs : List Nat) (w : World) (hrow : Row w w.heap.size A (zs.map bc)) (hz : zs.length = n) (hz2 : ∀ z ∈ zs, z < 256) (hn : n ≤ 140737488355328) :
    Calls Tryd.prog 22 #[.slice A n c] w fun e w' => ∃ A0 c0 vs A1 c1 ys, e = .returned (.agg #[.slice A0 4 c0, .slice A1 8 c1]) ∧ stB vs ys = true ∧ InL w' w'.heap.size A0 4 vs ∧ InL w' w'.heap.size A1 8 ys ∧ Below w.heap.size w w' := by
  have hb0 := bnew w (.cells #[.slice none 0 0, .slice none 0 0] 46)
  have hR : BlkIs (w.alloc (.cells #[.slice none 0 0, .slice none 0 0] 46)) w.heap.size 46 #[.slice none 0 0, .slice none 0 0] := blk_new _ _ _ _ rfl
  have H := Lib.hid (l00From_c A n c zs (w.alloc (.cells #[.slice none 0 0, .slice none 0 0] 46)) ((hrow.below hb0 (Nat.le_refl _)).more hb0.size) hz hz2 hn)
  clear hrow hz hz2
  obtain ⟨rb, hrb⟩ : ∃ rb, Hid (w.heap.size = rb) := ⟨_, rfl⟩
  go_enter Tryd.func22, Tryd.ntmps22
  go_wp2_with fail
  rw [hrb.out] at hR ⊢
  generalize w.alloc (.cells #[.slice none 0 0, .slice none 0 0] 46) = W0 at hb0 hR H ⊢
  refine H.out.mono ?_
  rintro e w1 ⟨g, rfl, hg, hs1, hb1⟩
  have hR1 := hR.next hb1
  have hrl := hR.lt
  obtain ⟨k, hk, HS⟩ : ∃ k, k ≤ 900000 ∧ Hid (Src w1 g k) := ⟨0, by omega, hs1⟩
  have hgr : rb < g := by omega
  have hgw : w.heap.size ≤ g := by have := hb0.size; omega
  clear hs1 hR H hg
  go_wp2_with fail
  refine (l03DrawState_c g k w1 HS.out hk).mono ?_
  rintro e w2 ⟨A0, c0, vs, A1, c1, ys, rfl, hst, h0, h1, hs2, hg2⟩
  have hR2 := hR1.by_grown hg2 (fun e => by injection e; omega)
  have k0 : w2.cell? ⟨rb, 0, none⟩ = some (.slice none 0 0) := hR2.cell 0
  have k1 : w2.cell? ⟨rb, 1, none⟩ = some (.slice none 0 0) := hR2.cell 1
  have k2 := hR2.frozen 0
  have k3 := hR2.frozen 1
  have RZ := (hR2.set 0 (.slice A0 4 c0)).set 1 (.slice A1 8 c1)
  have s0 : ((w2.setCell ⟨rb, 0, none⟩ (.slice A0 4 c0)).setCell ⟨rb, 1, none⟩ (.slice A1 8 c1)).cell? ⟨rb, 0, none⟩ = some (.slice A0 4 c0) := by rw [RZ.cell 0]; simp
  have s1 : ((w2.setCell ⟨rb, 0, none⟩ (.slice A0 4 c0)).setCell ⟨rb, 1, none⟩ (.slice A1 8 c1)).cell? ⟨rb, 1, none⟩ = some (.slice A1 8 c1) := by rw [RZ.cell 1]; simp
  have hbw : Below w.heap.size w w2 := below_of_grown (bon hb0 hb1) hg2 hgw
  have hbz : Below w.heap.size w ((w2.setCell ⟨rb, 0, none⟩ (.slice A0 4 c0)).setCell ⟨rb, 1, none⟩ (.slice A1 8 c1)) := hbw.trans ((below_set (by have := hrb.out; omega)).trans (below_set (by have := hrb.out; omega)))
  have q0 := inl_far h0 hR2 (by simp) (.slice A0 4 c0) (.slice A1 8 c1)
  have q1 := inl_far h1 hR2 (by simp) (.slice A0 4 c0) (.slice A1 8 c1)
  clear hR2 RZ hg2 hR1
  go_wp2_with fail
  exact bodyPost_ret (v := .agg #[.slice A0 4 c0, .slice A1 8 c1]) (by simp [results, Tryd.results22, go_sem, s0, s1]) rfl ⟨A0, c0, vs, A1, c1, ys, rfl, hst, q0, q1, hbz⟩

set_option maxRecDepth 100000 in
set_option maxHeartbeats 4000000 in
/-- r8Same of equal rows. -/
theorem r8Same_c (A : Option Addr) (n c : Nat) (A' : Option Addr) (c' : Nat) (zs : List Int) (w : World) (h : InL w w.heap.size A n zs) (h' : InL w w.heap.size A' n zs) (hn : n ≤ 1048576) :
    Calls Tryd.prog 13 #[.slice A n c, .slice A' n c'] w fun e w' => e = .returned (.bool true) ∧ Below w.heap.size w w' := by
  have H := Lib.hid h
  have H' := Lib.hid h'
  clear h h'
  go_enter Tryd.func13, Tryd.ntmps13
  go_wp2_with fail
  go_loopw [5] (fun i wr => ∃ k : Nat, i = .int .i64 k ∧ k ≤ n ∧ Hid (Below w.heap.size w wr)) (fun i _ => (n - intOf i).toNat)
  case atStart => exact ⟨0, rfl, Nat.zero_le _, Below.refl _ _⟩
  case round =>
    rename World => wr
    obtain ⟨k, rfl, hk, hb⟩ := hrel
    by_cases hlt : k < n
    · have i3 : (k : Int) < (n : Int) := by omega
      obtain ⟨b, off, y, rfl, hbb, hy, hc⟩ := (H.out.next hb.out (Nat.le_refl _)).2.int_at (k := k) (by rw [H.out.1]; exact hlt)
      obtain ⟨b2, off2, y2, rfl, hbb2, hy2, hc2⟩ := (H'.out.next hb.out (Nat.le_refl _)).2.int_at (k := k) (by rw [H'.out.1]; exact hlt)
      rw [hy] at hy2
      obtain rfl := Option.some.inj hy2
      have HB := Lib.hid (hb.out.drew)
      clear hy hy2 hbb hbb2 hb
      go_wp2_with fail
      go_region
      go_wp2_with fail
      go_roundw
      case rel => exact ⟨k + 1, by go_num, by omega, HB.out⟩
      case measure => simp [intOf]; omega
    · obtain rfl : k = n := by omega
      have i3 : ¬ (k : Int) < (k : Int) := by omega
      go_wp2_with fail
      go_ret
      exact ⟨rfl, hb.out⟩

end Go.Proofs.YtffkdidgfeknkaaDoor
