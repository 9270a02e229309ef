/-
  Several texts in one: Bound, BoundW, SetE, BoundX, Round, SetB. Conditions: as each says.
-/
import Derived.RangeFuncNested
import Derived.RangeFuncBound
import Derived.RangeFuncCalls
import Derived.RangeFuncLeaves
import Derived.Shelf.Abstract
import Derived.Shelf.RegionOpen
import Derived.OwnWalkIn
import Derived.TacticsInMore
import Derived.LoopNIn
import Derived.LoopIn
import Derived.Test.YtffkdidgfeknkaaGreatDoorBase
import Derived.Below
import Derived.Test.YtffkdidgfeknkaaGreatDoorBunE
import Derived.Shelf.Lay
import Derived.Shelf.Lays7
import Derived.Shelf.Spec.TrailingZeros
import Derived.Deep.RegionHeld
import Derived.OrdersIn
import Derived.Laws.OwnMore
import Derived.Test.YtffkdidgfeknkaaGreatDoorSep

/-! A range over a method value ('for x := range list.each'), whose receiver is bound ahead of yield: one law for the caller, told by states that the rounds go through. No conditions. -/
namespace Go.Proofs.YtffkdidgfeknkaaGreatDoor
set_option linter.unusedVariables false
open Go.RowKit Go.Shelf

/-- How a round's body may be left: on to a further state, or by a jump. -/
def leftBy {σ : Type} (B : Nat) (I : σ → World → Prop) (St : σ → Prop) (Ix : Code → World → Prop) (W : World) : Exit → Act → World → Prop
  | .normal, _, W' => KeepsFrom B W W' ∧ ∃ s', St s' ∧ I s' W'
  | .ret, _, W' => KeepsFrom B W W' ∧ Ix .ret W'
  | .exit id, _, W' => KeepsFrom B W W' ∧ Ix (.exit id) W'
  | .goto t, _, W' => KeepsFrom B W W' ∧ Ix (.goto t) W'
  | .panic _, _, _ => False
  | .outgrown, _, _ => False

/-- What an iterator owes that is bound to a receiver: whatever the rounds do, if each leads from a state to a further one. -/
def Rounds {σ α : Type} (F : Fence) (n : Nat) (P : Program) (gf : Nat) (bd : Array Value) (encs : α → Array Value) (I : σ → World → Prop) (Nx : σ → α → Prop) (St : σ → σ → Prop) (Fin : σ → Prop) (s0 : σ) : Prop :=
  ∀ (l : Nat) (J : σ → World → Prop) (Jx : World → Prop) (W : World), (∀ s W1, J s W1 → I s W1) →
    (∀ s x W1, J s W1 → Nx s x → YieldAt F (n - 1) P l (encs x) W1 fun e W' => (e = .returned (.bool true) ∧ ∃ s', St s s' ∧ J s' W') ∨ (e = .returned (.bool false) ∧ Jx W')) →
    J s0 W → CallsIn F n P gf (bd ++ #[.func (.yield l) #[] #[]]) W fun e W' => (∃ v, e = .returned v) ∧ ((∃ s, Fin s ∧ J s W') ∨ Jx W')

theorem range_bound {σ α : Type} {F : Fence} {n : Nat} {P : Program} {g : Operand} {ps : Array Tmp} {assign body : Code} {Q : Exit → Act → World → Prop} {a : Act} {w : World}
    (hro : F.round = none) (h1 : 1 ≤ n) {gf : Nat} {bd : Array Value} (hg : a.eval g = .func (.func gf) bd #[]) (hF : F.fn gf) (eg : ∀ args w, (callFunc gf args).run P w = .ok (.enter gf args) w)
    {encs : α → Array Value} (hps : ∀ x, (encs x).size = ps.size)
    (I : σ → World → Prop) (Ix : Code → World → Prop) (hI : OwnFrom w.heap.size I) (hIx : OwnFrom w.heap.size Ix) {Nx : σ → α → Prop} {St : σ → σ → Prop} {Fin : σ → Prop} {s0 : σ} (h0 : I s0 w)
    (hseq : Rounds F (n - 1) P gf bd encs I Nx St Fin s0) (Ax : α → Act)
    (hassign : ∀ (l : Nat) (s : σ) (x : α) (W : World) (K : Act → World → Prop), I s W → K (Ax x) W → assign.wpIn (F.inRound l) (n - 1 - 1) P (Exit.then K (fun _ _ _ => False)) { tmps := (ps.zip (encs x)).foldl (fun t (p, v) => t.setIfInBounds p v) a.tmps, defers := [] } W)
    (hbody : ∀ (l : Nat) (s : σ) (x : α) (W : World), w.heap.size ≤ l → I s W → Nx s x → body.wpIn (F.inRound l) (n - 1 - 1) P (leftBy w.heap.size I (St s) Ix W) (Ax x) W)
    (hdone : ∀ (D : Nat) (s : σ) (W : World), w.heap.size ≤ D → Fin s → I s W → W.heap[D]? = some (.deferred (some [])) → Q .normal { a with defers := { target := .collected D, args := #[] } :: a.defers } W)
    (hstop : ∀ (D : Nat) (c : Code) (W : World), w.heap.size ≤ D → Ix c W → W.heap[D]? = some (.deferred (some [])) → c.wpIn F n P Q { a with defers := { target := .collected D, args := #[] } :: a.defers } W) :
    (Code.rangeFunc g ps assign body).wpIn F n P Q a w := by
  refine wpIn_rangeFunc fun fn hfn => ?_
  rw [hro]
  -- the record of the loop, by its state and the jump that is pending
  obtain ⟨rc, hrc⟩ : ∃ rc : LoopState → Option Code → Loop, ∀ st pe, rc st pe = { state := st, pending := pe, fn := fn, tmps := a.tmps, params := ps, assign := assign, body := body, defers := w.heap.size } := ⟨_, fun _ _ => rfl⟩
  obtain ⟨At, hAt⟩ : ∃ At : LoopState → Option Code → World → Prop, ∀ st pe W, At st pe W ↔ (W.heap[w.heap.size + 1]? = some (.loop (rc st pe)) ∧ W.heap[w.heap.size]? = some (.deferred (some []))) := ⟨_, fun _ _ _ => Iff.rfl⟩
  have turn : ∀ {W : World} {st : LoopState} {pe : Option Code} (st' : LoopState) (pe' : Option Code), At st pe W → At st' pe' (W.putObj (w.heap.size + 1) (.loop (rc st' pe'))) := fun st' pe' h => by
    obtain ⟨h1, h2⟩ := (hAt _ _ _).1 h
    exact (hAt _ _ _).2 ⟨World.putObj_heap_same (Array.getElem?_eq_some_iff.1 h1).1, (World.putObj_heap_other (by omega)).trans h2⟩
  have kept : ∀ {W W' : World} {st : LoopState} {pe : Option Code}, KeepsFrom w.heap.size W W' → At st pe W → At st pe W' := fun hk h => by
    obtain ⟨h1, h2⟩ := (hAt _ _ _).1 h
    exact (hAt _ _ _).2 ⟨hk.same _ _ (by omega) h1 rfl, hk.same _ _ (Nat.le_refl _) h2 rfl⟩
  have put : ∀ {W : World} {st : LoopState} {pe : Option Code} {s : σ} (st' : LoopState) (pe' : Option Code), At st pe W → I s W → I s (W.putObj (w.heap.size + 1) (.loop (rc st' pe'))) := fun st' pe' h hs =>
    hI.putObj _ hs (by omega) ((hAt _ _ _).1 h).1 rfl
  have putx : ∀ {W : World} {st : LoopState} {pe : Option Code} {c : Code} (st' : LoopState) (pe' : Option Code), At st pe W → Ix c W → Ix c (W.putObj (w.heap.size + 1) (.loop (rc st' pe'))) := fun st' pe' h hs =>
    hIx.putObj _ hs (by omega) ((hAt _ _ _).1 h).1 rfl
  have begin_ : ∀ {W : World}, At .ready none W → (Instr.beginRound (w.heap.size + 1)).run P W = .ok () (W.putObj (w.heap.size + 1) (.loop (rc .busy none))) := fun h => by
    have := run_beginRound (P := P) ((hAt _ _ _).1 h).1 (by rw [hrc])
    rw [this, hrc, hrc]
  have end_ : ∀ {W : World} (jump : Option Code), At .busy none W → (Instr.endRound (w.heap.size + 1) jump).run P W = .ok (.bool jump.isNone) (W.putObj (w.heap.size + 1) (.loop (rc (if jump.isNone then .ready else .done) jump))) := fun jump h => by
    have := run_endRound (P := P) jump ((hAt _ _ _).1 h).1
    rw [this, hrc, hrc]
  have leave : ∀ {W : World} {st : LoopState} {pe : Option Code}, st ≠ .busy → At st pe W → (Instr.endLoop (w.heap.size + 1)).run P W = .ok pe (W.putObj (w.heap.size + 1) (.loop (rc .exhausted pe))) := fun hne h => by
    have := run_endLoop (P := P) ((hAt _ _ _).1 h).1 (by rw [hrc]; exact hne)
    rw [this, hrc, hrc]
  have hst : At .ready none ((w.alloc (.deferred (some []))).alloc (.loop (rc .ready none))) := by
    refine (hAt _ _ _).2 ⟨?_, ?_⟩
    · have := World.alloc_heap_new (w.alloc (.deferred (some []))) (.loop (rc .ready none))
      rwa [World.size_alloc] at this
    · exact (Below.heap_alloc _ _ _ (by simp)).trans (World.alloc_heap_new w _)
  have hs0 : I s0 ((w.alloc (.deferred (some []))).alloc (.loop (rc .ready none))) := hI.alloc _ (hI.alloc _ h0)
  refine ⟨w.heap.size + 1, [{ target := .collected w.heap.size, args := #[] }], (w.alloc (.deferred (some []))).alloc (.loop (rc .ready none)), { target := .fn (.func gf) #[], args := bd ++ #[.func (.yield (w.heap.size + 1)) #[] #[]] }, (w.alloc (.deferred (some []))).alloc (.loop (rc .ready none)), gf,
    bd ++ #[.func (.yield (w.heap.size + 1)) #[] #[]], (w.alloc (.deferred (some []))).alloc (.loop (rc .ready none)), ?_, ?_, ?_, ?_, fun _ => h1, ?_⟩
  · rw [hrc]; exact run_enterLoop_outer _ _ _ _ _
  · simp only [resolve, hg]
    simp [go_sem]
  · intro f' hf'; simp [Target.leads] at hf'; subst hf'; exact hF
  · simp [invoke, go_sem, eg]
  · refine (hseq (w.heap.size + 1) (fun s W => I s W ∧ At .ready none W) (fun W => ∃ c, Ix c W ∧ At .done (some c) W) _ (fun s W1 h => h.1) ?_ ⟨hs0, hst⟩).mono ?_
    · rintro s x W ⟨hi, hat⟩ hx
      have hy := run_yield (P := P) (args := encs x) ((hAt _ _ _).1 hat).1 (by rw [hrc]; exact hps x)
      rw [hrc] at hy
      refine ⟨fn, _, assign, body, hy, roundIn_of_wpIn hfn (hassign _ s x W _ hi ⟨_, begin_ hat, ?_⟩)⟩
      refine wpIn_mono (hbody _ s x _ (by omega) (put .busy none hat hi) hx) ?_
      have hb := turn .busy none hat
      rintro e a3 W3 hp
      cases e with
      | normal =>
        obtain ⟨hk, s', hs', hi'⟩ := hp
        have hb3 := kept hk hb
        exact ⟨_, _, end_ none hb3, .inl ⟨rfl, s', hs', put .ready none hb3 hi', turn .ready none hb3⟩⟩
      | ret =>
        have hb3 := kept hp.1 hb
        exact ⟨_, _, end_ (some .ret) hb3, .inr ⟨rfl, _, putx .done (some .ret) hb3 hp.2, turn .done (some .ret) hb3⟩⟩
      | exit id =>
        have hb3 := kept hp.1 hb
        exact ⟨_, _, end_ (some (.exit id)) hb3, .inr ⟨rfl, _, putx .done (some (.exit id)) hb3 hp.2, turn .done (some (.exit id)) hb3⟩⟩
      | goto t =>
        have hb3 := kept hp.1 hb
        exact ⟨_, _, end_ (some (.goto t)) hb3, .inr ⟨rfl, _, putx .done (some (.goto t)) hb3 hp.2, turn .done (some (.goto t)) hb3⟩⟩
      | panic ch => exact hp.elim
      | outgrown => exact hp.elim
    · rintro e W2 ⟨⟨v, rfl⟩, (⟨s, hf, hi, hat⟩ | ⟨c, hi, hat⟩)⟩
      · exact ⟨none, _, leave (by simp) hat, hdone _ s _ (Nat.le_refl _) hf (put .exhausted none hat hi) ((hAt _ _ _).1 (turn .exhausted none hat)).2⟩
      · exact ⟨some c, _, leave (by simp) hat, hstop _ c _ (Nat.le_refl _) (putx .exhausted (some c) hat hi) ((hAt _ _ _).1 (turn .exhausted (some c) hat)).2⟩
end Go.Proofs.YtffkdidgfeknkaaGreatDoor

/-! A range over a bound method value that makes memory of its own between the rounds: one law for the caller. No conditions. -/
namespace Go.Proofs.YtffkdidgfeknkaaGreatDoor
set_option linter.unusedVariables false
open Go.RowKit Go.Shelf

/-- How a round's body may be left: on to a further state, or by a jump. -/
def leftByW {σ : Type} (B : Nat) (I : σ → World → Prop) (St : σ → Prop) (Ix : Code → World → Prop) (W : World) : Exit → Act → World → Prop
  | .normal, _, W' => Below W.heap.size W W' ∧ ∃ s', St s' ∧ I s' W'
  | .ret, _, W' => KeepsFrom B W W' ∧ Ix .ret W'
  | .exit id, _, W' => KeepsFrom B W W' ∧ Ix (.exit id) W'
  | .goto t, _, W' => KeepsFrom B W W' ∧ Ix (.goto t) W'
  | .panic _, _, _ => False
  | .outgrown, _, _ => False

/-- The blocks from B on are as they were. -/
def SameFrom (B : Nat) (W W' : World) : Prop := W.heap.size ≤ W'.heap.size ∧ ∀ k, B ≤ k → k < W.heap.size → W'.heap[k]? = W.heap[k]?
/-- What an iterator owes that is bound to a receiver and has memory of its own, behind all that was there when it began. -/
def RoundsW {σ α : Type} (F : Fence) (n : Nat) (P : Program) (gf : Nat) (bd : Array Value) (encs : α → Array Value) (I : σ → World → Prop) (Nx : σ → α → World → Prop) (St : σ → σ → Prop) (Fin : σ → Prop) (s0 : σ) : Prop :=
  ∀ (l : Nat) (J : σ → World → Prop) (Jx : World → Prop) (W : World), (∀ s W1, J s W1 → I s W1) → (∀ s W1 W2, J s W1 → Below W.heap.size W1 W2 → J s W2) →
    (∀ s x W1, W.heap.size ≤ W1.heap.size → J s W1 → Nx s x W1 → YieldAt F (n - 1) P l (encs x) W1 fun e W' => (e = .returned (.bool true) ∧ SameFrom W.heap.size W1 W' ∧ ∃ s', St s s' ∧ J s' W') ∨ (e = .returned (.bool false) ∧ Jx W')) →
    J s0 W → CallsIn F n P gf (bd ++ #[.func (.yield l) #[] #[]]) W fun e W' => (∃ v, e = .returned v) ∧ ((∃ s, Fin s ∧ J s W') ∨ Jx W')

theorem range_boundW {σ α : Type} {F : Fence} {n : Nat} {P : Program} {g : Operand} {ps : Array Tmp} {assign body : Code} {Q : Exit → Act → World → Prop} {a : Act} {w : World}
    (hro : F.round = none) (h1 : 1 ≤ n) {gf : Nat} {bd : Array Value} (hg : a.eval g = .func (.func gf) bd #[]) (hF : F.fn gf) (eg : ∀ args w, (callFunc gf args).run P w = .ok (.enter gf args) w)
    {encs : α → Array Value} (hps : ∀ x, (encs x).size = ps.size)
    (I : σ → World → Prop) (Ix : Code → World → Prop) (hI : OwnFrom w.heap.size I) (hIx : OwnFrom w.heap.size Ix) {Nx : σ → α → World → Prop} (hIW : ∀ s W1 W2, I s W1 → Below w.heap.size W1 W2 → I s W2) (hNx : ∀ s x W1 W2, Nx s x W1 → (∃ o : Obj, W1.heap[w.heap.size + 1]? = some o ∧ o.isCells = false) → (∀ k, k ≠ w.heap.size + 1 → W2.heap[k]? = W1.heap[k]?) → W1.heap.size ≤ W2.heap.size → Nx s x W2) {St : σ → σ → Prop} {Fin : σ → Prop} {s0 : σ} (h0 : I s0 w)
    (hseq : RoundsW F (n - 1) P gf bd encs I Nx St Fin s0) (Ax : α → Act)
    (hassign : ∀ (l : Nat) (s : σ) (x : α) (W : World) (K : Act → World → Prop), I s W → K (Ax x) W → assign.wpIn (F.inRound l) (n - 1 - 1) P (Exit.then K (fun _ _ _ => False)) { tmps := (ps.zip (encs x)).foldl (fun t (p, v) => t.setIfInBounds p v) a.tmps, defers := [] } W)
    (hbody : ∀ (l : Nat) (s : σ) (x : α) (W : World), w.heap.size ≤ l → I s W → Nx s x W → body.wpIn (F.inRound l) (n - 1 - 1) P (leftByW w.heap.size I (St s) Ix W) (Ax x) W)
    (hdone : ∀ (D : Nat) (s : σ) (W : World), w.heap.size ≤ D → Fin s → I s W → W.heap[D]? = some (.deferred (some [])) → Q .normal { a with defers := { target := .collected D, args := #[] } :: a.defers } W)
    (hstop : ∀ (D : Nat) (c : Code) (W : World), w.heap.size ≤ D → Ix c W → W.heap[D]? = some (.deferred (some [])) → c.wpIn F n P Q { a with defers := { target := .collected D, args := #[] } :: a.defers } W) :
    (Code.rangeFunc g ps assign body).wpIn F n P Q a w := by
  refine wpIn_rangeFunc fun fn hfn => ?_
  rw [hro]
  -- the record of the loop, by its state and the jump that is pending
  obtain ⟨rc, hrc⟩ : ∃ rc : LoopState → Option Code → Loop, ∀ st pe, rc st pe = { state := st, pending := pe, fn := fn, tmps := a.tmps, params := ps, assign := assign, body := body, defers := w.heap.size } := ⟨_, fun _ _ => rfl⟩
  obtain ⟨At, hAt⟩ : ∃ At : LoopState → Option Code → World → Prop, ∀ st pe W, At st pe W ↔ (W.heap[w.heap.size + 1]? = some (.loop (rc st pe)) ∧ W.heap[w.heap.size]? = some (.deferred (some []))) := ⟨_, fun _ _ _ => Iff.rfl⟩
  have turn : ∀ {W : World} {st : LoopState} {pe : Option Code} (st' : LoopState) (pe' : Option Code), At st pe W → At st' pe' (W.putObj (w.heap.size + 1) (.loop (rc st' pe'))) := fun st' pe' h => by
    obtain ⟨h1, h2⟩ := (hAt _ _ _).1 h
    exact (hAt _ _ _).2 ⟨World.putObj_heap_same (Array.getElem?_eq_some_iff.1 h1).1, (World.putObj_heap_other (by omega)).trans h2⟩
  have kept : ∀ {W W' : World} {st : LoopState} {pe : Option Code}, KeepsFrom w.heap.size W W' → At st pe W → At st pe W' := fun hk h => by
    obtain ⟨h1, h2⟩ := (hAt _ _ _).1 h
    exact (hAt _ _ _).2 ⟨hk.same _ _ (by omega) h1 rfl, hk.same _ _ (Nat.le_refl _) h2 rfl⟩
  have put : ∀ {W : World} {st : LoopState} {pe : Option Code} {s : σ} (st' : LoopState) (pe' : Option Code), At st pe W → I s W → I s (W.putObj (w.heap.size + 1) (.loop (rc st' pe'))) := fun st' pe' h hs =>
    hI.putObj _ hs (by omega) ((hAt _ _ _).1 h).1 rfl
  have putx : ∀ {W : World} {st : LoopState} {pe : Option Code} {c : Code} (st' : LoopState) (pe' : Option Code), At st pe W → Ix c W → Ix c (W.putObj (w.heap.size + 1) (.loop (rc st' pe'))) := fun st' pe' h hs =>
    hIx.putObj _ hs (by omega) ((hAt _ _ _).1 h).1 rfl
  have begin_ : ∀ {W : World}, At .ready none W → (Instr.beginRound (w.heap.size + 1)).run P W = .ok () (W.putObj (w.heap.size + 1) (.loop (rc .busy none))) := fun h => by
    have := run_beginRound (P := P) ((hAt _ _ _).1 h).1 (by rw [hrc])
    rw [this, hrc, hrc]
  have end_ : ∀ {W : World} (jump : Option Code), At .busy none W → (Instr.endRound (w.heap.size + 1) jump).run P W = .ok (.bool jump.isNone) (W.putObj (w.heap.size + 1) (.loop (rc (if jump.isNone then .ready else .done) jump))) := fun jump h => by
    have := run_endRound (P := P) jump ((hAt _ _ _).1 h).1
    rw [this, hrc, hrc]
  have leave : ∀ {W : World} {st : LoopState} {pe : Option Code}, st ≠ .busy → At st pe W → (Instr.endLoop (w.heap.size + 1)).run P W = .ok pe (W.putObj (w.heap.size + 1) (.loop (rc .exhausted pe))) := fun hne h => by
    have := run_endLoop (P := P) ((hAt _ _ _).1 h).1 (by rw [hrc]; exact hne)
    rw [this, hrc, hrc]
  have hst : At .ready none ((w.alloc (.deferred (some []))).alloc (.loop (rc .ready none))) := by
    refine (hAt _ _ _).2 ⟨?_, ?_⟩
    · have := World.alloc_heap_new (w.alloc (.deferred (some []))) (.loop (rc .ready none))
      rwa [World.size_alloc] at this
    · exact (Below.heap_alloc _ _ _ (by simp)).trans (World.alloc_heap_new w _)
  have hs0 : I s0 ((w.alloc (.deferred (some []))).alloc (.loop (rc .ready none))) := hI.alloc _ (hI.alloc _ h0)
  refine ⟨w.heap.size + 1, [{ target := .collected w.heap.size, args := #[] }], (w.alloc (.deferred (some []))).alloc (.loop (rc .ready none)), { target := .fn (.func gf) #[], args := bd ++ #[.func (.yield (w.heap.size + 1)) #[] #[]] }, (w.alloc (.deferred (some []))).alloc (.loop (rc .ready none)), gf,
    bd ++ #[.func (.yield (w.heap.size + 1)) #[] #[]], (w.alloc (.deferred (some []))).alloc (.loop (rc .ready none)), ?_, ?_, ?_, ?_, fun _ => h1, ?_⟩
  · rw [hrc]; exact run_enterLoop_outer _ _ _ _ _
  · simp only [resolve, hg]
    simp [go_sem]
  · intro f' hf'; simp [Target.leads] at hf'; subst hf'; exact hF
  · simp [invoke, go_sem, eg]
  · have hsz0 : ((w.alloc (.deferred (some []))).alloc (.loop (rc .ready none))).heap.size = w.heap.size + 2 := by simp
    refine (hseq (w.heap.size + 1) (fun s W => I s W ∧ At .ready none W) (fun W => ∃ c, Ix c W ∧ At .done (some c) W) _ (fun s W1 h => h.1) ?_ ?_ ⟨hs0, hst⟩).mono ?_
    · rintro s W1 W2 ⟨h1, h2⟩ hb
      rw [hsz0] at hb
      obtain ⟨a1, a2⟩ := (hAt _ _ _).1 h2
      exact ⟨hIW s W1 W2 h1 (hb.mono (by omega)), (hAt _ _ _).2 ⟨(hb.block _ (by omega)).trans a1, (hb.block _ (by omega)).trans a2⟩⟩
    · rintro s x W hWs ⟨hi, hat⟩ hx
      rw [hsz0] at hWs ⊢
      have hy := run_yield (P := P) (args := encs x) ((hAt _ _ _).1 hat).1 (by rw [hrc]; exact hps x)
      rw [hrc] at hy
      have hgb := grownBy_putObj' W (w.heap.size + 1) (.loop (rc .busy none))
      refine ⟨fn, _, assign, body, hy, roundIn_of_wpIn hfn (hassign _ s x W _ hi ⟨_, begin_ hat, ?_⟩)⟩
      refine wpIn_mono (hbody _ s x _ (by omega) (put .busy none hat hi) (hNx s x W _ hx ⟨_, ((hAt _ _ _).1 hat).1, rfl⟩ (fun k hk => World.putObj_heap_other hk) hgb.size)) ?_
      have hb := turn .busy none hat
      rintro e a3 W3 hp
      cases e with
      | normal =>
        obtain ⟨hk0, s', hs', hi'⟩ := hp
        have hk : KeepsFrom w.heap.size (W.putObj (w.heap.size + 1) (.loop (rc .busy none))) W3 := ⟨hk0.size, fun k o hB hk ho => (hk0.block k (Array.getElem?_eq_some_iff.1 hk).1).trans hk⟩
        have hb3 := kept hk hb
        have hge := grownBy_putObj' W3 (w.heap.size + 1) (.loop (rc .ready none))
        refine ⟨_, _, end_ none hb3, .inl ⟨rfl, ⟨Nat.le_trans (Nat.le_trans hgb.size hk0.size) hge.size, fun k h1 h2 => ?_⟩, s', hs', put .ready none hb3 hi', turn .ready none hb3⟩⟩
        have e1 := hgb.block k h2 (by intro e; have := Option.some.inj e; omega)
        have e2 := hk0.block k (Nat.lt_of_lt_of_le h2 hgb.size)
        have e3 := hge.block k (Nat.lt_of_lt_of_le h2 (Nat.le_trans hgb.size hk0.size)) (by intro e; have := Option.some.inj e; omega)
        exact e3.trans (e2.trans e1)
      | ret =>
        have hb3 := kept hp.1 hb
        exact ⟨_, _, end_ (some .ret) hb3, .inr ⟨rfl, _, putx .done (some .ret) hb3 hp.2, turn .done (some .ret) hb3⟩⟩
      | exit id =>
        have hb3 := kept hp.1 hb
        exact ⟨_, _, end_ (some (.exit id)) hb3, .inr ⟨rfl, _, putx .done (some (.exit id)) hb3 hp.2, turn .done (some (.exit id)) hb3⟩⟩
      | goto t =>
        have hb3 := kept hp.1 hb
        exact ⟨_, _, end_ (some (.goto t)) hb3, .inr ⟨rfl, _, putx .done (some (.goto t)) hb3 hp.2, turn .done (some (.goto t)) hb3⟩⟩
      | panic ch => exact hp.elim
      | outgrown => exact hp.elim
    · rintro e W2 ⟨⟨v, rfl⟩, (⟨s, hf, hi, hat⟩ | ⟨c, hi, hat⟩)⟩
      · exact ⟨none, _, leave (by simp) hat, hdone _ s _ (Nat.le_refl _) hf (put .exhausted none hat hi) ((hAt _ _ _).1 (turn .exhausted none hat)).2⟩
      · exact ⟨some c, _, leave (by simp) hat, hstop _ c _ (Nat.le_refl _) (putx .exhausted (some c) hat hi) ((hAt _ _ _).1 (turn .exhausted (some c) hat)).2⟩
end Go.Proofs.YtffkdidgfeknkaaGreatDoor

/-! The elements of a set of places, given one after another. Conditions: the library's table of the lowest bits as its initialiser lays it. -/
namespace Go.Proofs
open Go.Shelf
shelf_lay Lays7.n29 Nm7 29 at Tryz as Tryz.lays7_29
end Go.Proofs
namespace Go.Proofs.YtffkdidgfeknkaaGreatDoor
set_option linter.unusedVariables false
open Go.RowKit Go.Shelf

/-- The library's table in its variable. -/
def TabZ (w : World) : Prop := TabAt 1 Lib.deBruijn64tab w
theorem tz_c (x : Nat) (hx : x < 18446744073709551616) (w : World) (hT : TabZ w) : Calls Tryz.prog 78 #[.int .u64 (x : Int)] w fun e w' => e = .returned (.int .i64 (Lib.ctz 64 x)) ∧ w' = w :=
  Any7.bits_TrailingZeros64 Tryz.lays7_29 x hx w (fun _ => hT)
theorem and_val (x : Nat) (h0 : x ≠ 0) (hx : x < 18446744073709551616) : bits BinOp.and IntKind.u64 (x : Int) (((x - 1 : Nat) : Int)) = ((x &&& (x - 1) : Nat) : Int) := bits_and_u64_nat _ _ hx (by omega)

theorem iw0 (a b : Int) (w : World) : (Instr.index 68 (.agg #[.int .u64 a, .int .u64 b]) (.int .i64 0)).run Tryz.prog w = .ok (.int .u64 a) w := by kernel_rfl
theorem iw1 (a b : Int) (w : World) : (Instr.index 68 (.agg #[.int .u64 a, .int .u64 b]) (.int .i64 1)).run Tryz.prog w = .ok (.int .u64 b) w := by kernel_rfl
/-- What is left of a word, and behind it. -/
def LeftS (S s x d : Nat) (rest : List Nat) : Prop := x < 2 ^ 64 ∧ s + (bitsW x).length + rest.length = (bitsL S).length ∧ (bitsL S).drop s = (bitsW x).map (· + d) ++ rest
theorem LeftS.step {S s x d : Nat} {rest : List Nat} (h : LeftS S s x d rest) (h0 : x ≠ 0) : (bitsL S)[s]? = some (Lib.ctz 64 x + d) ∧ LeftS S (s + 1) (x &&& (x - 1)) d rest ∧ Lib.ctz 64 x < 64 := by
  obtain ⟨h1, h2, h3⟩ := h
  have hn := bitsW_next h0 h1
  rw [hn] at h2 h3
  rw [List.map_cons, List.cons_append] at h3
  refine ⟨?_, ⟨Nat.lt_of_le_of_lt Nat.and_le_left h1, by rw [List.length_cons] at h2; omega, ?_⟩, (low_bits h0 h1).2.2.1⟩
  · have := congrArg (fun l => l[0]?) h3
    simpa using this
  · have := congrArg List.tail h3
    rw [List.tail_drop] at this
    exact this

set_option maxRecDepth 100000 in
set_option maxHeartbeats 4000000 in
theorem each_rounds (S : Nat) (hS : S < 2 ^ 128) (n : Nat) (hn : 2 ≤ n) (I : Nat → World → Prop) (hM : ∀ s W, I s W → TabZ W) :
    RoundsW Fence.wide n Tryz.prog 39 #[.agg #[.int .u64 (loW S : Nat), .int .u64 (hiW S : Nat)]] (fun x : Nat => #[.int .i64 (x : Int)]) I (fun s x _ => (bitsL S)[s]? = some x) (fun s s' => s' = s + 1) (fun s => s = (bitsL S).length) 0 := fun l J Jx W0 hJI hJ hY h0 => by
  refine callsIn_of_wp Tryz.func39 rfl trivial ?_ rfl
  simp only [Tryz.ntmps39, List.size_toArray, List.length_cons, List.length_nil, Nat.reduceAdd, Nat.reduceSub, Array.replicate_succ, Array.replicate_zero, List.push_toArray, List.append_toArray, List.nil_append, List.cons_append]
  have hb0 := bnew W0 (.cells #[.int .u64 (loW S : Nat), .int .u64 (hiW S : Nat)] 68)
  have hX : BlkIs (W0.alloc (.cells #[.int .u64 (loW S : Nat), .int .u64 (hiW S : Nat)] 68)) W0.heap.size 68 #[.int .u64 (loW S : Nat), .int .u64 (hiW S : Nat)] := blk_new _ _ _ _ rfl
  have x0 := hX.cell 0
  have x1 := hX.cell 1
  simp at x0 x1
  have hJ0 := hJ 0 W0 _ h0 hb0
  have hl := loW_lt S
  have hh := hiW_lt hS
  have HL0 : Hid (LeftS S 0 (loW S) 0 ((bitsW (hiW S)).map (· + 64))) := ⟨by omega, by simp [bitsL], by simp [bitsL]⟩
  have HL1 : Hid (∀ s, LeftS S s 0 0 ((bitsW (hiW S)).map (· + 64)) → LeftS S s (hiW S) 64 []) := fun s h => ⟨by omega, by have h2 := h.2.1; rw [bitsW_zero] at h2; simp at h2 ⊢; omega, by have h3 := h.2.2; rw [bitsW_zero] at h3; simpa using h3⟩
  have HL2 : Hid (∀ s, LeftS S s 0 64 [] → s = (bitsL S).length) := fun s h => by have h2 := h.2.1; rw [bitsW_zero] at h2; simpa using h2
  have HT := Lib.hid (fun s W (h : J s W) => hM s W (hJI s W h))
  have HY := Lib.hid hY
  have hsz := hb0.size
  have hi0 := iw0 (loW S : Nat) (hiW S : Nat)
  have hi1 := iw1 (loW S : Nat) (hiW S : Nat)
  clear hM hJI hJ hY h0 hX
  gi_wp2
  generalize W0.alloc (.cells #[.int .u64 (loW S : Nat), .int .u64 (hiW S : Nat)] 68) = W1 at hb0 x0 x1 hJ0 hsz ⊢
  clear x0 x1 hb0
  gi_loopw [4, 5, 7] (fun _ _ i wr => ∃ (k : Int) (s : Nat), i = .int .i64 k ∧ J s wr ∧ W0.heap.size ≤ wr.heap.size ∧ ((k = 0 ∧ s = 0) ∨ (k = 1 ∧ Hid (LeftS S s 0 0 ((bitsW (hiW S)).map (· + 64)))) ∨ (k = 2 ∧ Hid (LeftS S s 0 64 [])))) (fun _ _ i _ => 2 - (intOf i).toNat)
  case atStart => exact ⟨0, 0, rfl, hJ0, hsz, .inl ⟨rfl, rfl⟩⟩
  case round =>
    clear hJ0 hsz
    obtain ⟨k, s, rfl, hJs, hsz, hk⟩ := hrel
    rcases hk with ⟨rfl, rfl⟩ | ⟨rfl, hk⟩ | ⟨rfl, hk⟩
    · have HST : Hid (LeftS S 0 (loW S) 0 ((bitsW (hiW S)).map (· + 64))) := Lib.hid HL0.out
      have hwx : loW S < 18446744073709551616 := hl
      gi_wp2
      gi_loopw [5] (fun v wr => ∃ (x s : Nat), v = .int .u64 (x : Int) ∧ x < 18446744073709551616 ∧ J s wr ∧ W0.heap.size ≤ wr.heap.size ∧ Hid (LeftS S s x 0 ((bitsW (hiW S)).map (· + 64)))) (fun v _ => (intOf v).toNat)
      case atStart => exact ⟨loW S, 0, rfl, hwx, hJs, hsz, HST⟩
      case round =>
        clear HST hwx hJs hsz
        obtain ⟨x, s, rfl, hx, hJs, hsz, hL⟩ := hrel
        by_cases h0 : x = 0
        · subst h0
          gi_wp2
          go_roundw
          case rel => exact ⟨1, s, by first | rfl | go_num, hJs, hsz, .inr (.inl ⟨rfl, hL⟩)⟩
          case measure => simp [intOf]
        · have e0 : ((x : Int) == 0) = false := by simp; exact h0
          obtain ⟨g1, g2, g3⟩ := hL.out.step h0
          have G2 := Lib.hid g2
          have wa : IntKind.u64.wrap ((x : Int) - 1) = ((x - 1 : Nat) : Int) := by rw [show (x : Int) - 1 = ((x - 1 : Nat) : Int) by omega]; exact IntWalk.u64_in _ (by omega)
          have wv := and_val x h0 hx
          have hlt : x &&& (x - 1) < x := Nat.lt_of_le_of_lt Nat.and_le_right (by omega)
          have TZ := Lib.hid (tz_c x hx wr (HT.out s wr hJs))
          rw [Nat.add_zero] at g1
          obtain ⟨fn, tmps, assign, body, hy, hR⟩ := HY.out s (Lib.ctz 64 x) wr hsz hJs g1
          (try dsimp only at hy)
          generalize Lib.ctz 64 x = z at g1 g3 TZ hy hR ⊢
          have wz : IntKind.i64.wrap ((z : Int)) = (z : Int) := IntWalk.i64_in _ (by omega)
          skip
          clear g1 g2 hL
          gi_wp2
          first | refine ⟨trivial, fun h => (by cases h), ?_⟩ | refine ⟨trivial, ?_⟩ | skip
          refine (callsIn_wide.2 TZ.out).mono ?_
          rintro e w2 ⟨rfl, rfl⟩
          gi_wp2
          first | refine hR.mono ?_ | refine ⟨fun h => (by cases h), hR.mono ?_⟩
          rintro e W3 (⟨rfl, hsf, s', rfl, hJ3⟩ | ⟨rfl, hJx3⟩)
          · gi_wp2
            go_roundw
            case rel => exact ⟨x &&& (x - 1), s + 1, rfl, by omega, hJ3, Nat.le_trans hsz hsf.1, G2⟩
            case measure => simp [intOf]; omega
          · gi_wp2
            refine bodyPost_ret (results_none rfl _ _ _) rfl ?_
            exact ⟨⟨_, rfl⟩, .inr hJx3⟩
    · have HST : Hid (LeftS S s (hiW S) 64 []) := Lib.hid (HL1.out s hk.out)
      have hwx : hiW S < 18446744073709551616 := hh
      gi_wp2
      gi_loopw [5] (fun v wr => ∃ (x s : Nat), v = .int .u64 (x : Int) ∧ x < 18446744073709551616 ∧ J s wr ∧ W0.heap.size ≤ wr.heap.size ∧ Hid (LeftS S s x 64 [])) (fun v _ => (intOf v).toNat)
      case atStart => exact ⟨hiW S, s, rfl, hwx, hJs, hsz, HST⟩
      case round =>
        clear HST hwx hJs hsz
        obtain ⟨x, s, rfl, hx, hJs, hsz, hL⟩ := hrel
        by_cases h0 : x = 0
        · subst h0
          gi_wp2
          go_roundw
          case rel => exact ⟨2, s, by first | rfl | go_num, hJs, hsz, .inr (.inr ⟨rfl, hL⟩)⟩
          case measure => simp [intOf]
        · have e0 : ((x : Int) == 0) = false := by simp; exact h0
          obtain ⟨g1, g2, g3⟩ := hL.out.step h0
          have G2 := Lib.hid g2
          have wa : IntKind.u64.wrap ((x : Int) - 1) = ((x - 1 : Nat) : Int) := by rw [show (x : Int) - 1 = ((x - 1 : Nat) : Int) by omega]; exact IntWalk.u64_in _ (by omega)
          have wv := and_val x h0 hx
          have hlt : x &&& (x - 1) < x := Nat.lt_of_le_of_lt Nat.and_le_right (by omega)
          have TZ := Lib.hid (tz_c x hx wr (HT.out s wr hJs))
          skip
          obtain ⟨fn, tmps, assign, body, hy, hR⟩ := HY.out s (Lib.ctz 64 x + 64) wr hsz hJs g1
          (try dsimp only at hy)
          generalize Lib.ctz 64 x = z at g1 g3 TZ hy hR ⊢
          have wz : IntKind.i64.wrap (64 + (z : Int)) = (z : Int) + 64 := by rw [show 64 + (z : Int) = (z : Int) + 64 by omega]; exact IntWalk.i64_in _ (by omega)
          rw [show ((z + 64 : Nat) : Int) = (z : Int) + 64 by omega] at hy
          clear g1 g2 hL
          gi_wp2
          first | refine ⟨trivial, fun h => (by cases h), ?_⟩ | refine ⟨trivial, ?_⟩ | skip
          refine (callsIn_wide.2 TZ.out).mono ?_
          rintro e w2 ⟨rfl, rfl⟩
          gi_wp2
          first | refine hR.mono ?_ | refine ⟨fun h => (by cases h), hR.mono ?_⟩
          rintro e W3 (⟨rfl, hsf, s', rfl, hJ3⟩ | ⟨rfl, hJx3⟩)
          · gi_wp2
            go_roundw
            case rel => exact ⟨x &&& (x - 1), s + 1, rfl, by omega, hJ3, Nat.le_trans hsz hsf.1, G2⟩
            case measure => simp [intOf]; omega
          · gi_wp2
            refine bodyPost_ret (results_none rfl _ _ _) rfl ?_
            exact ⟨⟨_, rfl⟩, .inr hJx3⟩
    · have hE := HL2.out s hk.out
      gi_wp2
      go_end0
      exact ⟨⟨_, rfl⟩, .inl ⟨s, hE, hJs⟩⟩
end Go.Proofs.YtffkdidgfeknkaaGreatDoor

/-! A range over a bound method value that has memory of its own, whose rounds write into blocks made ahead of the loop: one law for the caller. No conditions. -/
namespace Go.Proofs.YtffkdidgfeknkaaGreatDoor
set_option linter.unusedVariables false
open Go.RowKit Go.Shelf

/-- How a round's body may be left: on to a further state, or by a jump. -/
def leftByX {σ : Type} (B : Nat) (I : σ → World → Prop) (St : σ → Prop) (Ix : Code → World → Prop) (W : World) : Exit → Act → World → Prop
  | .normal, _, W' => SameFrom B W W' ∧ ∃ s', St s' ∧ I s' W'
  | .ret, _, W' => KeepsFrom B W W' ∧ Ix .ret W'
  | .exit id, _, W' => KeepsFrom B W W' ∧ Ix (.exit id) W'
  | .goto t, _, W' => KeepsFrom B W W' ∧ Ix (.goto t) W'
  | .panic _, _, _ => False
  | .outgrown, _, _ => False

theorem range_boundX {σ α : Type} {F : Fence} {n : Nat} {P : Program} {g : Operand} {ps : Array Tmp} {assign body : Code} {Q : Exit → Act → World → Prop} {a : Act} {w : World}
    (hro : F.round = none) (h1 : 1 ≤ n) {gf : Nat} {bd : Array Value} (hg : a.eval g = .func (.func gf) bd #[]) (hF : F.fn gf) (eg : ∀ args w, (callFunc gf args).run P w = .ok (.enter gf args) w)
    {encs : α → Array Value} (hps : ∀ x, (encs x).size = ps.size)
    (I : σ → World → Prop) (Ix : Code → World → Prop) (hI : OwnFrom w.heap.size I) (hIx : OwnFrom w.heap.size Ix) {Nx : σ → α → World → Prop} (hIW : ∀ s W1 W2, I s W1 → Below w.heap.size W1 W2 → I s W2) (hNx : ∀ s x W1 W2, Nx s x W1 → (∃ o : Obj, W1.heap[w.heap.size + 1]? = some o ∧ o.isCells = false) → (∀ k, k ≠ w.heap.size + 1 → W2.heap[k]? = W1.heap[k]?) → W1.heap.size ≤ W2.heap.size → Nx s x W2) {St : σ → σ → Prop} {Fin : σ → Prop} {s0 : σ} (h0 : I s0 w)
    (hseq : RoundsW F (n - 1) P gf bd encs I Nx St Fin s0) (Ax : α → Act)
    (hassign : ∀ (l : Nat) (s : σ) (x : α) (W : World) (K : Act → World → Prop), I s W → K (Ax x) W → assign.wpIn (F.inRound l) (n - 1 - 1) P (Exit.then K (fun _ _ _ => False)) { tmps := (ps.zip (encs x)).foldl (fun t (p, v) => t.setIfInBounds p v) a.tmps, defers := [] } W)
    (hbody : ∀ (l : Nat) (s : σ) (x : α) (W : World), w.heap.size ≤ l → I s W → Nx s x W → body.wpIn (F.inRound l) (n - 1 - 1) P (leftByX w.heap.size I (St s) Ix W) (Ax x) W)
    (hdone : ∀ (D : Nat) (s : σ) (W : World), w.heap.size ≤ D → Fin s → I s W → W.heap[D]? = some (.deferred (some [])) → Q .normal { a with defers := { target := .collected D, args := #[] } :: a.defers } W)
    (hstop : ∀ (D : Nat) (c : Code) (W : World), w.heap.size ≤ D → Ix c W → W.heap[D]? = some (.deferred (some [])) → c.wpIn F n P Q { a with defers := { target := .collected D, args := #[] } :: a.defers } W) :
    (Code.rangeFunc g ps assign body).wpIn F n P Q a w := by
  refine wpIn_rangeFunc fun fn hfn => ?_
  rw [hro]
  -- the record of the loop, by its state and the jump that is pending
  obtain ⟨rc, hrc⟩ : ∃ rc : LoopState → Option Code → Loop, ∀ st pe, rc st pe = { state := st, pending := pe, fn := fn, tmps := a.tmps, params := ps, assign := assign, body := body, defers := w.heap.size } := ⟨_, fun _ _ => rfl⟩
  obtain ⟨At, hAt⟩ : ∃ At : LoopState → Option Code → World → Prop, ∀ st pe W, At st pe W ↔ (W.heap[w.heap.size + 1]? = some (.loop (rc st pe)) ∧ W.heap[w.heap.size]? = some (.deferred (some []))) := ⟨_, fun _ _ _ => Iff.rfl⟩
  have turn : ∀ {W : World} {st : LoopState} {pe : Option Code} (st' : LoopState) (pe' : Option Code), At st pe W → At st' pe' (W.putObj (w.heap.size + 1) (.loop (rc st' pe'))) := fun st' pe' h => by
    obtain ⟨h1, h2⟩ := (hAt _ _ _).1 h
    exact (hAt _ _ _).2 ⟨World.putObj_heap_same (Array.getElem?_eq_some_iff.1 h1).1, (World.putObj_heap_other (by omega)).trans h2⟩
  have kept : ∀ {W W' : World} {st : LoopState} {pe : Option Code}, KeepsFrom w.heap.size W W' → At st pe W → At st pe W' := fun hk h => by
    obtain ⟨h1, h2⟩ := (hAt _ _ _).1 h
    exact (hAt _ _ _).2 ⟨hk.same _ _ (by omega) h1 rfl, hk.same _ _ (Nat.le_refl _) h2 rfl⟩
  have put : ∀ {W : World} {st : LoopState} {pe : Option Code} {s : σ} (st' : LoopState) (pe' : Option Code), At st pe W → I s W → I s (W.putObj (w.heap.size + 1) (.loop (rc st' pe'))) := fun st' pe' h hs =>
    hI.putObj _ hs (by omega) ((hAt _ _ _).1 h).1 rfl
  have putx : ∀ {W : World} {st : LoopState} {pe : Option Code} {c : Code} (st' : LoopState) (pe' : Option Code), At st pe W → Ix c W → Ix c (W.putObj (w.heap.size + 1) (.loop (rc st' pe'))) := fun st' pe' h hs =>
    hIx.putObj _ hs (by omega) ((hAt _ _ _).1 h).1 rfl
  have begin_ : ∀ {W : World}, At .ready none W → (Instr.beginRound (w.heap.size + 1)).run P W = .ok () (W.putObj (w.heap.size + 1) (.loop (rc .busy none))) := fun h => by
    have := run_beginRound (P := P) ((hAt _ _ _).1 h).1 (by rw [hrc])
    rw [this, hrc, hrc]
  have end_ : ∀ {W : World} (jump : Option Code), At .busy none W → (Instr.endRound (w.heap.size + 1) jump).run P W = .ok (.bool jump.isNone) (W.putObj (w.heap.size + 1) (.loop (rc (if jump.isNone then .ready else .done) jump))) := fun jump h => by
    have := run_endRound (P := P) jump ((hAt _ _ _).1 h).1
    rw [this, hrc, hrc]
  have leave : ∀ {W : World} {st : LoopState} {pe : Option Code}, st ≠ .busy → At st pe W → (Instr.endLoop (w.heap.size + 1)).run P W = .ok pe (W.putObj (w.heap.size + 1) (.loop (rc .exhausted pe))) := fun hne h => by
    have := run_endLoop (P := P) ((hAt _ _ _).1 h).1 (by rw [hrc]; exact hne)
    rw [this, hrc, hrc]
  have hst : At .ready none ((w.alloc (.deferred (some []))).alloc (.loop (rc .ready none))) := by
    refine (hAt _ _ _).2 ⟨?_, ?_⟩
    · have := World.alloc_heap_new (w.alloc (.deferred (some []))) (.loop (rc .ready none))
      rwa [World.size_alloc] at this
    · exact (Below.heap_alloc _ _ _ (by simp)).trans (World.alloc_heap_new w _)
  have hs0 : I s0 ((w.alloc (.deferred (some []))).alloc (.loop (rc .ready none))) := hI.alloc _ (hI.alloc _ h0)
  refine ⟨w.heap.size + 1, [{ target := .collected w.heap.size, args := #[] }], (w.alloc (.deferred (some []))).alloc (.loop (rc .ready none)), { target := .fn (.func gf) #[], args := bd ++ #[.func (.yield (w.heap.size + 1)) #[] #[]] }, (w.alloc (.deferred (some []))).alloc (.loop (rc .ready none)), gf,
    bd ++ #[.func (.yield (w.heap.size + 1)) #[] #[]], (w.alloc (.deferred (some []))).alloc (.loop (rc .ready none)), ?_, ?_, ?_, ?_, fun _ => h1, ?_⟩
  · rw [hrc]; exact run_enterLoop_outer _ _ _ _ _
  · simp only [resolve, hg]
    simp [go_sem]
  · intro f' hf'; simp [Target.leads] at hf'; subst hf'; exact hF
  · simp [invoke, go_sem, eg]
  · have hsz0 : ((w.alloc (.deferred (some []))).alloc (.loop (rc .ready none))).heap.size = w.heap.size + 2 := by simp
    refine (hseq (w.heap.size + 1) (fun s W => I s W ∧ At .ready none W) (fun W => ∃ c, Ix c W ∧ At .done (some c) W) _ (fun s W1 h => h.1) ?_ ?_ ⟨hs0, hst⟩).mono ?_
    · rintro s W1 W2 ⟨h1, h2⟩ hb
      rw [hsz0] at hb
      obtain ⟨a1, a2⟩ := (hAt _ _ _).1 h2
      exact ⟨hIW s W1 W2 h1 (hb.mono (by omega)), (hAt _ _ _).2 ⟨(hb.block _ (by omega)).trans a1, (hb.block _ (by omega)).trans a2⟩⟩
    · rintro s x W hWs ⟨hi, hat⟩ hx
      rw [hsz0] at hWs ⊢
      have hy := run_yield (P := P) (args := encs x) ((hAt _ _ _).1 hat).1 (by rw [hrc]; exact hps x)
      rw [hrc] at hy
      have hgb := grownBy_putObj' W (w.heap.size + 1) (.loop (rc .busy none))
      refine ⟨fn, _, assign, body, hy, roundIn_of_wpIn hfn (hassign _ s x W _ hi ⟨_, begin_ hat, ?_⟩)⟩
      refine wpIn_mono (hbody _ s x _ (by omega) (put .busy none hat hi) (hNx s x W _ hx ⟨_, ((hAt _ _ _).1 hat).1, rfl⟩ (fun k hk => World.putObj_heap_other hk) hgb.size)) ?_
      have hb := turn .busy none hat
      rintro e a3 W3 hp
      cases e with
      | normal =>
        obtain ⟨hk0, s', hs', hi'⟩ := hp
        have hk : KeepsFrom w.heap.size (W.putObj (w.heap.size + 1) (.loop (rc .busy none))) W3 := ⟨hk0.1, fun k o hB hk ho => (hk0.2 k hB (Array.getElem?_eq_some_iff.1 hk).1).trans hk⟩
        have hb3 := kept hk hb
        have hge := grownBy_putObj' W3 (w.heap.size + 1) (.loop (rc .ready none))
        refine ⟨_, _, end_ none hb3, .inl ⟨rfl, ⟨Nat.le_trans (Nat.le_trans hgb.size hk0.1) hge.size, fun k h1 h2 => ?_⟩, s', hs', put .ready none hb3 hi', turn .ready none hb3⟩⟩
        have e1 := hgb.block k h2 (by intro e; have := Option.some.inj e; omega)
        have e2 := hk0.2 k (by omega) (Nat.lt_of_lt_of_le h2 hgb.size)
        have e3 := hge.block k (Nat.lt_of_lt_of_le h2 (Nat.le_trans hgb.size hk0.1)) (by intro e; have := Option.some.inj e; omega)
        exact e3.trans (e2.trans e1)
      | ret =>
        have hb3 := kept hp.1 hb
        exact ⟨_, _, end_ (some .ret) hb3, .inr ⟨rfl, _, putx .done (some .ret) hb3 hp.2, turn .done (some .ret) hb3⟩⟩
      | exit id =>
        have hb3 := kept hp.1 hb
        exact ⟨_, _, end_ (some (.exit id)) hb3, .inr ⟨rfl, _, putx .done (some (.exit id)) hb3 hp.2, turn .done (some (.exit id)) hb3⟩⟩
      | goto t =>
        have hb3 := kept hp.1 hb
        exact ⟨_, _, end_ (some (.goto t)) hb3, .inr ⟨rfl, _, putx .done (some (.goto t)) hb3 hp.2, turn .done (some (.goto t)) hb3⟩⟩
      | panic ch => exact hp.elim
      | outgrown => exact hp.elim
    · rintro e W2 ⟨⟨v, rfl⟩, (⟨s, hf, hi, hat⟩ | ⟨c, hi, hat⟩)⟩
      · exact ⟨none, _, leave (by simp) hat, hdone _ s _ (Nat.le_refl _) hf (put .exhausted none hat hi) ((hAt _ _ _).1 (turn .exhausted none hat)).2⟩
      · exact ⟨some c, _, leave (by simp) hat, hstop _ c _ (Nat.le_refl _) (putx .exhausted (some c) hat hi) ((hAt _ _ _).1 (turn .exhausted (some c) hat)).2⟩
end Go.Proofs.YtffkdidgfeknkaaGreatDoor

/-! Of no program: a region that draws its order, in a round of a loop over an iterator, told by its plain walk; append onto a row of one's own, with where the longer row lies. No conditions. -/
namespace Go.Proofs.YtffkdidgfeknkaaGreatDoor
set_option linter.unusedVariables false
open Go.RowKit

section
variable {P : Program} {r n : Nat} {ops : Array Oper} {Q : Exit → Act → World → Prop} {md : Region.Mode}
/-- An operation in a round, by its plain walk. -/
theorem opIn_of_wp {o : Oper} {a : Act} {w : World} {K : Act → World → Prop} (hd : ∀ c, o.op ≠ .defer c) (h : o.wp P a w K Q) : o.wpIn (Fence.wide.inRound r) n P a w K Q := by
  refine ⟨fun f _ => trivial, ?_⟩
  rw [Oper.semAt_eq _ _ _ hd]
  unfold Oper.wp at h
  generalize (execOp a.eval o).run P w = R at h ⊢
  cases R with
  | ok x w' =>
    cases x with
    | value v => exact h
    | skip => exact h
    | defer d => exact h
    | enter f args => exact ⟨fun e => by simp [Fence.inRound, Fence.wide] at e, CallsIn.inRound r (callsIn_wide.2 h)⟩
    | row row args => exact ⟨fun e => by simp [Fence.inRound, Fence.wide] at e, fun c cs _ => by
        obtain ⟨v, w'', hr, hs⟩ := h c cs
        exact ⟨v, w'', hr, stepsIn_wide.2 hs⟩⟩
    | _ => exact h.elim
  | halt x w' =>
    cases x with
    | panic v => exact h
    | _ => exact h.elim
theorem anyIn_of_any (hd : ∀ (i : Nat) o, ops[i]? = some o → ∀ c, o.op ≠ .defer c) (hQ : ¬ LetsOut Q) : ∀ (fuel : Nat) (listed : Array Bool) (a : Act) (w : World), wpAny P md ops Q fuel listed a w → wpAnyIn (Fence.wide.inRound r) n P md ops Q fuel listed a w
  | 0, _, _, _, h => h
  | fuel + 1, listed, a, w, h => ⟨h.1, fun i hi => by
    have h1 := h.2 i hi
    unfold wpOp at h1
    unfold wpOpIn
    cases ho : ops[i]? with
    | none =>
      simp only [ho] at h1
      exact anyIn_of_any hd hQ fuel _ _ _ h1
    | some o =>
      simp only [ho] at h1
      by_cases hw : Region.wanted o (yielded ops a.tmps) = true
      · simp only [hw, if_true] at h1 ⊢
        rcases h1 with h1 | h1
        · exact Oper.wpIn_mono (fun a' w' h' => anyIn_of_any hd hQ fuel _ _ _ h') (opIn_of_wp (hd i o ho) h1)
        · exact absurd h1.2 hQ
      · simp only [hw, Bool.false_eq_true, if_false] at h1 ⊢
        exact ⟨fun f _ => trivial, anyIn_of_any hd hQ fuel _ _ _ h1⟩⟩
/-- The region ends as it should, and in no other way. -/
def NormOnly (Q : Exit → Act → World → Prop) : Exit → Act → World → Prop
  | .normal, a, w => Q .normal a w
  | _, _, _ => False
theorem NormOnly.out {Q : Exit → Act → World → Prop} : ∀ (e : Exit) (a : Act) (w : World), NormOnly Q e a w → Q e a w := fun e a w h => by
  cases e with
  | normal => exact h
  | _ => exact h.elim
theorem NormOnly.normal {Q : Exit → Act → World → Prop} {a : Act} {w : World} (h : Q .normal a w) : NormOnly Q .normal a w := h
def noDefer (ops : Array Oper) : Bool := ops.toList.all fun o => match o.op with
  | .defer _ => false
  | _ => true
theorem noDefer_at {ops : Array Oper} (h : noDefer ops = true) (i : Nat) (o : Oper) (ho : ops[i]? = some o) (c : Call) : o.op ≠ .defer c := by
  intro e
  have hm : o ∈ ops.toList := by
    obtain ⟨hi, e'⟩ := Array.getElem?_eq_some_iff.1 ho
    rw [← e']; simp
  have := List.all_eq_true.1 h o hm
  rw [e] at this
  cases this
/-- A region that draws its order, in a round. S: what is held of the world while it runs. -/
theorem region_round {id : Nat} {a : Act} {w : World} (S : World → Prop) (hm : P.follows .mixedOrders = true) (hd : noDefer ops = true) (hS : S w.drew)
    (h : S w.drew → wpAnyH P .any ops (NormOnly Q) S ops.size (Array.replicate ops.size false) a w.drew) : (Code.region id ops true).wpIn (Fence.wide.inRound r) n P Q a w :=
  wpIn_mono (wpIn_region_any hm (anyIn_of_any (noDefer_at hd) (fun ⟨_, _, h⟩ => h) _ _ _ _ (wpAny_of_held _ _ _ _ (h hS)))) NormOnly.out
end

section
variable {P : Program} {w : World}
/-- The same at an operation, in a fence. -/
theorem wpListIn_append_sep {F : Fence} {nn : Nat} {ops : Array Oper} {rest : List Oper} {o : Oper} {act : Act} {Q : Exit → Act → World → Prop}
    (hg : o.guard = none) (s x : Operand) (t : TypeId) (hop : o.op = Op.call { callee := Callee.builtin Builtin.append, args := #[s, x], argTypes := #[t, t] })
    (base : Nat) (e : TypeId) (i : TypeInfo) (z : Value) (size bytes : Nat) (h1 : P.underlying t = some (.slice e)) (h2 : P.info? e = some i) (h3 : i.zero = some z) (h4 : i.size = size) (h5 : i.bytes = bytes) (h6 : z.cells.size = size) (h7 : 0 < size)
    (v : Value) (k : Nat) (xs : List Value) (hs : act.eval s = v) (hown : w.ownsRow base e size v k xs) (ad : Addr) (m c : Nat) (news : List Value) (hx : act.eval x = .slice (some ad) m c) (hn : news.length = m * size)
    (hc : ∀ j u, news[j]? = some u → w.cell? (ad.add j) = some u) (h1c : ∀ u ∈ news, u.oneCell' = true) (b1 : k + m ≤ maxLen) (b2 : (k + m) * bytes ≤ 140737488355328) (b3 : base ≤ w.heap.size) (hm : 0 < m)
    (hK : ∀ g' cap' w', w'.ownsRow base e size (.slice (some ⟨g', 0, none⟩) (k + m) cap') (k + m) (xs ++ news) → w.grownBy w' v.ownBlock → (some g' = v.ownBlock ∨ w.heap.size ≤ g') → wpListIn F nn P ops Q rest (act.put o.dst (.slice (some ⟨g', 0, none⟩) (k + m) cap')) w') :
    wpListIn F nn P ops Q (o :: rest) act w := by
  refine wpListIn_plain hg fun K hK' => ?_
  obtain ⟨g', cap', w', hrun, r1, r2, r3⟩ := run_append_sep (P := P) (w := w) base t o.type e i z size bytes h1 h2 h3 h4 h5 h6 h7 v k xs hown ad m c news hn hc h1c b1 b2 b3 hm
  unfold Oper.wpIn
  refine ⟨?_, ?_⟩
  · simp [Oper.about, hop, resolve, Target.leads, Sem.run_pure]
  · rw [Oper.semAt_plain F _ _ (by rw [hop]; intro c hc'; cases hc')]
    simp [execOp, hop, resolve, invoke, builtin, hs, hx, hrun, Result.andThen]
    exact hK' _ _ (hK _ _ w' r1 r2 r3)
end
end Go.Proofs.YtffkdidgfeknkaaGreatDoor

/-! The instructions to which those in a set go on. Conditions: the library's table of the lowest bits as its initialiser lays it. -/
namespace Go.Proofs.YtffkdidgfeknkaaGreatDoor
set_option linter.unusedVariables false
open Go.RowKit Go.Shelf
attribute [local go_sem] Oper.semAt_some

theorem set_farB {w : World} {b o g i : Nat} {u v : Value} (hne : b ≠ g) (h : w.cell? ⟨b, o, none⟩ = some v) : (w.setCell ⟨g, i, none⟩ u).cell? ⟨b, o, none⟩ = some v :=
  (World.cell?_setCell_other _ _ _ _ (fun e => hne (by injection e with e _ _; exact e.symm))).trans h

theorem TabZ.next {w w' : World} (h : TabZ w) (hb : Below w.heap.size w w') : TabZ w' := fun j hj => (hb.cell (p := ⟨1, j, none⟩) (cell_lt (h j hj))).trans (h j hj)
/-- A graph in memory: for each instruction a set. -/
def GrAt (w : World) (gb n : Nat) (G : Nat → Nat) : Prop := ∀ k, k < n → w.cell? ⟨gb, k * 2, none⟩ = some (.int .u64 (loW (G k) : Nat)) ∧ w.cell? ⟨gb, k * 2 + 1, none⟩ = some (.int .u64 (hiW (G k) : Nat))
theorem GrAt.next {w w' : World} {gb n : Nat} {G : Nat → Nat} (h : GrAt w gb n G) (hb : Below w.heap.size w w') : GrAt w' gb n G := fun k hk =>
  ⟨(hb.cell (p := ⟨gb, k * 2, none⟩) (cell_lt (h k hk).1)).trans (h k hk).1, (hb.cell (p := ⟨gb, k * 2 + 1, none⟩) (cell_lt (h k hk).2)).trans (h k hk).2⟩
theorem sameFrom_below {B : Nat} {w w' : World} (h : Below w.heap.size w w') : SameFrom B w w' := ⟨h.size, fun k _ hk => h.block k hk⟩
theorem sameFrom_set2 {B g : Nat} {w w' : World} {x y : Value} (hg : g < B) (h : SameFrom B w w') : SameFrom B w ((w'.setCell ⟨g, 0, none⟩ x).setCell ⟨g, 1, none⟩ y) := by
  refine ⟨by simpa using h.1, fun k hk hl => ?_⟩
  have g1 := only_set (w := w') (g := g) (i := 0) (x := x)
  have g2 := only_set (w := w'.setCell ⟨g, 0, none⟩ x) (g := g) (i := 1) (x := y)
  rw [g2.block k (by simpa using Nat.lt_of_lt_of_le hl h.1) (fun e => by have := Option.some.inj e; omega), g1.block k (Nat.lt_of_lt_of_le hl h.1) (fun e => by have := Option.some.inj e; omega)]
  exact h.2 k hk hl
/-- What behind holds in memory between the rounds: what came in (below it), its boxes, the union so far. -/
structure BehI (wc : World) (gb n c : Nat) (G : Nat → Nat) (N : Nat) (W : World) : Prop where
  gbox : BlkIs W wc.heap.size 70 #[.slice (some ⟨gb, 0, none⟩) n c]
  res : BlkIs W (wc.heap.size + 1 + 1) 68 #[.int .u64 0, .int .u64 0]
  next : BlkIs W (wc.heap.size + 1 + 1 + 1) 68 #[.int .u64 (loW N : Nat), .int .u64 (hiW N : Nat)]
  tab : TabZ W
  gr : GrAt W gb n G
  below : Below wc.heap.size wc W
theorem BehI.keep {wc W W1 : World} {gb n c N : Nat} {G : Nat → Nat} (h : BehI wc gb n c G N W) (hb : Below W.heap.size W W1) : BehI wc gb n c G N W1 :=
  ⟨h.gbox.next hb, h.res.next hb, h.next.next hb, h.tab.next hb, h.gr.next hb, bon h.below hb⟩
theorem BlkIs.grown {w w' : World} {g : Nat} {t : TypeId} {cs : Array Value} {r : Option Nat} (h : BlkIs w g t cs) (hg : w.grownBy w' r) (hr : some g ≠ r) : BlkIs w' g t cs := (hg.block g h.lt hr).trans h
theorem cell_grown {w w' : World} {b o : Nat} {v : Value} {r : Option Nat} (h : w.cell? ⟨b, o, none⟩ = some v) (hg : w.grownBy w' r) (hr : some b ≠ r) : w'.cell? ⟨b, o, none⟩ = some v :=
  (World.cell?_of_block (a := ⟨b, o, none⟩) (hg.block b (cell_lt h) hr)).trans h
theorem BehI.grown {wc W W1 : World} {gb n c N : Nat} {G : Nat → Nat} {r : Option Nat} (h : BehI wc gb n c G N W) (hg : W.grownBy W1 r) (hr : ∀ j, r = some j → wc.heap.size + 4 ≤ j) (hgb : n = 0 ∨ gb < wc.heap.size) (hz : 1 < wc.heap.size) : BehI wc gb n c G N W1 :=
  ⟨h.gbox.grown hg (fun e => by have := hr _ e.symm; omega), h.res.grown hg (fun e => by have := hr _ e.symm; omega), h.next.grown hg (fun e => by have := hr _ e.symm; omega),
    fun j hj => cell_grown (h.tab j hj) hg (fun e => by have := hr _ e.symm; omega),
    fun k hk => ⟨cell_grown (h.gr k hk).1 hg (fun e => by have := hr _ e.symm; omega), cell_grown (h.gr k hk).2 hg (fun e => by have := hr _ e.symm; omega)⟩,
    h.below.grown hg h.below.size (fun j e => by have := hr _ e; omega)⟩
theorem BehI.keepB {wc W W1 : World} {B gb n c N : Nat} {G : Nat → Nat} (h : BehI wc gb n c G N W) (hb : Below B W W1) (hB : wc.heap.size + 4 ≤ B) (hgb : n = 0 ∨ gb < wc.heap.size) (hz : 1 < wc.heap.size) : BehI wc gb n c G N W1 :=
  ⟨(hb.block _ (by omega)).trans h.gbox, (hb.block _ (by omega)).trans h.res, (hb.block _ (by omega)).trans h.next, fun j hj => (hb.cell (p := ⟨1, j, none⟩) (by show 1 < B; omega)).trans (h.tab j hj),
    fun k hk => ⟨(hb.cell (p := ⟨gb, k * 2, none⟩) (by show gb < B; omega)).trans (h.gr k hk).1, (hb.cell (p := ⟨gb, k * 2 + 1, none⟩) (by show gb < B; omega)).trans (h.gr k hk).2⟩, h.below.trans (hb.mono (by omega))⟩
theorem BehI.step {wc W W1 : World} {gb n c N M : Nat} {G : Nat → Nat} (h : BehI wc gb n c G N W) (hb : Below W.heap.size W W1) (hgb : n = 0 ∨ gb < wc.heap.size) (hz : 1 < wc.heap.size) :
    BehI wc gb n c G M ((W1.setCell ⟨wc.heap.size + 1 + 1 + 1, 0, none⟩ (.int .u64 (loW M : Nat))).setCell ⟨wc.heap.size + 1 + 1 + 1, 1, none⟩ (.int .u64 (hiW M : Nat))) := by
  have k := h.keep hb
  have hn := (k.next.set 0 (.int .u64 (loW M : Nat))).set 1 (.int .u64 (hiW M : Nat))
  simp at hn
  have hg := only_trans (only_set (w := W1) (g := wc.heap.size + 1 + 1 + 1) (i := 0) (x := .int .u64 (loW M : Nat))) (only_set (w := W1.setCell ⟨wc.heap.size + 1 + 1 + 1, 0, none⟩ (.int .u64 (loW M : Nat))) (g := wc.heap.size + 1 + 1 + 1) (i := 1) (x := .int .u64 (hiW M : Nat)))
  exact ⟨k.gbox.grown hg (fun e => by have := Option.some.inj e; omega), k.res.grown hg (fun e => by have := Option.some.inj e; omega), hn, fun j hj => cell_grown (k.tab j hj) hg (fun e => by have := Option.some.inj e; omega),
    fun i hi => ⟨cell_grown (k.gr i hi).1 hg (fun e => by have := Option.some.inj e; omega), cell_grown (k.gr i hi).2 hg (fun e => by have := Option.some.inj e; omega)⟩,
    k.below.grown hg k.below.size (fun j e => by have := Option.some.inj e; omega)⟩

set_option maxRecDepth 100000 in
set_option maxHeartbeats 4000000 in
theorem behind_c (gb n c S : Nat) (G : Nat → Nat) (w : World) (hG : GrAt w gb n G) (hl : ∀ k, G k < 2 ^ 128) (hS : S < 2 ^ 128) (hm : ∀ k, S.testBit k = true → k < n) (hT : TabZ w) (hn : n ≤ 1000) :
    Calls Tryz.prog 47 #[.slice (some ⟨gb, 0, none⟩) n c, .agg #[.int .u64 (loW S : Nat), .int .u64 (hiW S : Nat)]] w fun e w' => e = .returned (.agg #[.int .u64 (loW (allS G (bitsL S)) : Nat), .int .u64 (hiW (allS G (bitsL S)) : Nat)]) ∧ Below w.heap.size w w' := by
  have hb0 : Below w.heap.size w ((((w.alloc (.cells #[.slice (some ⟨gb, 0, none⟩) n c] 70)).alloc (.cells #[.int .u64 (loW S : Nat), .int .u64 (hiW S : Nat)] 68)).alloc (.cells #[.int .u64 0, .int .u64 0] 68)).alloc (.cells #[.int .u64 0, .int .u64 0] 68)) := bon (bon (bon (bnew _ _) (bnew _ _)) (bnew _ _)) (bnew _ _)
  have hN0 : ((loW (allS G ((bitsL S).take 0)) : Nat) : Int) = 0 ∧ ((hiW (allS G ((bitsL S).take 0)) : Nat) : Int) = 0 := by rw [List.take_zero, show allS G [] = 0 from rfl]; decide
  have hI0 : BehI w gb n c G (allS G ((bitsL S).take 0)) ((((w.alloc (.cells #[.slice (some ⟨gb, 0, none⟩) n c] 70)).alloc (.cells #[.int .u64 (loW S : Nat), .int .u64 (hiW S : Nat)] 68)).alloc (.cells #[.int .u64 0, .int .u64 0] 68)).alloc (.cells #[.int .u64 0, .int .u64 0] 68)) :=
    ⟨(((blk_new w _ _ _ rfl).next (bnew _ _)).next (bnew _ _)).next (bnew _ _), (blk_new ((w.alloc (.cells #[.slice (some ⟨gb, 0, none⟩) n c] 70)).alloc (.cells #[.int .u64 (loW S : Nat), .int .u64 (hiW S : Nat)] 68)) _ _ _ (by simp)).next (bnew _ _), (by rw [hN0.1, hN0.2]; exact blk_new _ _ _ _ (by simp)), hT.next hb0, hG.next hb0, hb0⟩
  have hsz : ((((w.alloc (.cells #[.slice (some ⟨gb, 0, none⟩) n c] 70)).alloc (.cells #[.int .u64 (loW S : Nat), .int .u64 (hiW S : Nat)] 68)).alloc (.cells #[.int .u64 0, .int .u64 0] 68)).alloc (.cells #[.int .u64 0, .int .u64 0] 68)).heap.size = w.heap.size + 4 := by simp
  have hgb : n = 0 ∨ gb < w.heap.size := by
    rcases Nat.eq_zero_or_pos n with h | h
    · exact .inl h
    · exact .inr (cell_lt (hG 0 h).1)
  have hz : 1 < w.heap.size := cell_lt (hT 0 (by decide))
  have HL := Lib.hid hl
  have HM := Lib.hid (fun (s x : Nat) (h : (bitsL S)[s]? = some x) => hm x ((mem_bitsL hS x).1 (List.mem_of_getElem? h)))
  clear hG hT hl hm hb0
  refine callsIn_wide.1 (?_ : CallsIn Fence.wide 5 Tryz.prog 47 _ w _)
  refine callsIn_of_wp_marks Tryz.func47 rfl trivial ?_ rfl
  simp only [Tryz.ntmps47, List.size_toArray, List.length_cons, List.length_nil, Nat.reduceAdd, Nat.reduceSub, Array.replicate_succ, Array.replicate_zero, List.push_toArray, List.append_toArray, List.nil_append, List.cons_append]
  gi_wp2
  generalize (((w.alloc (.cells #[.slice (some ⟨gb, 0, none⟩) n c] 70)).alloc (.cells #[.int .u64 (loW S : Nat), .int .u64 (hiW S : Nat)] 68)).alloc (.cells #[.int .u64 0, .int .u64 0] 68)).alloc (.cells #[.int .u64 0, .int .u64 0] 68) = W0 at hI0 hsz ⊢
  clear hN0
  refine range_boundX (σ := Nat) (α := Nat) rfl (by omega) (gf := 39) (bd := #[.agg #[.int .u64 (loW S : Nat), .int .u64 (hiW S : Nat)]]) rfl trivial (enters_of Tryz.func39 (by kernel_rfl) rfl) (encs := fun x : Nat => #[.int .i64 (x : Int)]) (fun _ => rfl)
    (fun s W => W0.heap.size ≤ W.heap.size ∧ BehI w gb n c G (allS G ((bitsL S).take s)) W)
    (fun _ _ => False) ?own (fun _ _ _ _ h _ _ => h) ?iw ?nx (s0 := 0) ⟨Nat.le_refl _, hI0⟩
    (each_rounds S hS 4 (by omega) _ (fun s W h => h.2.tab)) (fun x : Nat => { tmps := #[.slice (some ⟨gb, 0, none⟩) n c, .agg #[.int .u64 (loW S : Nat), .int .u64 (hiW S : Nat)], .pointer (some ⟨w.heap.size, 0, none⟩), .pointer (some ⟨w.heap.size + 1, 0, none⟩), .pointer (some ⟨w.heap.size + 1 + 1, 0, none⟩), .pointer (some ⟨w.heap.size + 1 + 1 + 1, 0, none⟩), .int .i64 (x : Int), .agg #[.int .u64 (loW S : Nat), .int .u64 (hiW S : Nat)], .func (.func 39) #[.agg #[.int .u64 (loW S : Nat), .int .u64 (hiW S : Nat)]] #[], .int .i64 (x : Int), undef, undef, undef, undef, undef, undef, undef], defers := [] }) ?assign ?body ?done ?stop
  case own =>
    rintro s W W' row ⟨h1, h⟩ hg hr
    exact ⟨Nat.le_trans h1 hg.size, h.grown hg (fun j e => by have := (hr j e).1; omega) hgb hz⟩
  case iw =>
    rintro s W W' ⟨h1, h⟩ hb
    exact ⟨Nat.le_trans h1 hb.size, h.keepB hb (by omega) hgb hz⟩
  case nx => intro s x W1 W2 h _ _ _; exact h
  case assign =>
    intro l s x W K hI hK
    gi_wp2
    exact hK
  case body =>
    rintro l s x W hl ⟨h1, hI⟩ hx
    have hxn := HM.out s x hx
    have hxi : (x : Int) < (n : Int) := by omega
    have HNX : Hid (allS G ((bitsL S).take (s + 1)) = allS G ((bitsL S).take s) ||| G x) := by show _ = _; rw [List.take_add_one, hx]; exact allS_snoc _ _ _
    have HOR := Lib.hid (or_c (allS G ((bitsL S).take s)) (G x) W.drew (allS_lt HL.out _) (HL.out x))
    generalize allS G ((bitsL S).take s) = N at hI HNX HOR
    have d0 : W.cell? ⟨w.heap.size, 0, none⟩ = some (.slice (some ⟨gb, 0, none⟩) n c) := hI.gbox.cell 0
    obtain ⟨d1, d2⟩ := hI.gr x hxn
    have y0 := hI.next.cell 0
    have y1 := hI.next.cell 1
    simp at y0 y1
    have hnA : w.heap.size ≠ w.heap.size + 1 + 1 + 1 := by omega
    have hnB : gb ≠ w.heap.size + 1 + 1 + 1 := by omega
    have hBn : w.heap.size + 1 + 1 + 1 < W0.heap.size := by omega
    clear hx
    gi_wp2
    refine region_round (fun W9 => W9.cell? ⟨w.heap.size, 0, none⟩ = some (.slice (some ⟨gb, 0, none⟩) n c) ∧ W9.cell? ⟨gb, x * 2, none⟩ = some (.int .u64 (loW (G x) : Nat)) ∧ W9.cell? ⟨gb, x * 2 + 1, none⟩ = some (.int .u64 (hiW (G x) : Nat))) (by kernel_rfl) (by kernel_rfl) ⟨d0, d1, d2⟩ ?_
    intro hHeld0
    refine wpAnyH_take (i := 1) (v := ?_) rfl (by kernel_rfl) (by kernel_rfl) (by kernel_rfl) (fun _ _ _ h => h) (Or.inl ⟨by kernel_rfl, ?_⟩) (by assumption) ?_
    rotate_left
    · intro w9 hS9; (try dsimp only at hS9); go_simp; (try with_reducible rfl)
    set_option linter.unusedSimpArgs false in try simp only [Act.put, List.getElem_toArray, List.getElem_cons_succ, List.getElem_cons_zero, List.setIfInBounds_toArray, List.set_cons_zero, List.set_cons_succ]
    refine wpAnyH_take (i := 2) (v := ?_) rfl (by kernel_rfl) (by kernel_rfl) (by kernel_rfl) (fun _ _ _ h => h) (Or.inl ⟨by kernel_rfl, ?_⟩) (by assumption) ?_
    rotate_left
    · intro w9 hS9; (try dsimp only at hS9); go_simp; (try with_reducible rfl)
    set_option linter.unusedSimpArgs false in try simp only [Act.put, List.getElem_toArray, List.getElem_cons_succ, List.getElem_cons_zero, List.setIfInBounds_toArray, List.set_cons_zero, List.set_cons_succ]
    refine wpAnyH_take (i := 3) (v := ?_) rfl (by kernel_rfl) (by kernel_rfl) (by kernel_rfl) (fun _ _ _ h => h) (Or.inl ⟨by kernel_rfl, ?_⟩) (by assumption) ?_
    rotate_left
    · intro w9 hS9; (try dsimp only at hS9); go_simp; (try with_reducible rfl)
    set_option linter.unusedSimpArgs false in try simp only [Act.put, List.getElem_toArray, List.getElem_cons_succ, List.getElem_cons_zero, List.setIfInBounds_toArray, List.set_cons_zero, List.set_cons_succ]
    refine wpAnyH_take (i := 4) (v := ?_) rfl (by kernel_rfl) (by kernel_rfl) (by kernel_rfl) (fun _ _ _ h => h) (Or.inl ⟨by kernel_rfl, ?_⟩) (by assumption) ?_
    rotate_left
    · intro w9 hS9; (try dsimp only at hS9); go_simp; (try with_reducible rfl)
    set_option linter.unusedSimpArgs false in try simp only [Act.put, List.getElem_toArray, List.getElem_cons_succ, List.getElem_cons_zero, List.setIfInBounds_toArray, List.set_cons_zero, List.set_cons_succ]
    refine wpAnyH_ready (rs := [0]) (by kernel_rfl) (by simp) ?_
    refine AllReadyH.cons rfl (fun K hK => ?_) (AllReadyH.nil)
    go_simp
    refine hK.out _ _ ⟨d0, d1, d2⟩ (fun hHeld1 => ?_)
    clear hK K hHeld0
    set_option linter.unusedSimpArgs false in try simp only [Act.put, List.getElem_toArray, List.getElem_cons_succ, List.getElem_cons_zero, List.setIfInBounds_toArray, List.set_cons_zero, List.set_cons_succ]
    refine wpAnyH_ready (rs := [5]) (by kernel_rfl) (by simp) ?_
    refine AllReadyH.cons rfl (fun K hK => ?_) (AllReadyH.nil)
    go_simp
    go_wp2_with (go_at_call 76; refine HOR.out.mono ?_; rintro e w5 ⟨rfl, hb5⟩)
    have hN5 := (hI.next.next (bstep hb5))
    have s5 := hN5.frozen 0
    have s6 := hN5.frozen 1
    have q5 := hN5.cell 0
    have q6 := hN5.cell 1
    simp at q5 q6
    have n1 : w5.cell? ⟨w.heap.size, 0, none⟩ = some (.slice (some ⟨gb, 0, none⟩) n c) := cell_on d0 hb5
    have n2 : w5.cell? ⟨gb, x * 2, none⟩ = some (.int .u64 (loW (G x) : Nat)) := cell_on d1 hb5
    have n3 : w5.cell? ⟨gb, x * 2 + 1, none⟩ = some (.int .u64 (hiW (G x) : Nat)) := cell_on d2 hb5
    refine hK.out _ _ ⟨n1, n2, n3⟩ (fun hHeld2 => ?_)
    clear hK K hHeld1
    set_option linter.unusedSimpArgs false in try simp only [Act.put, List.getElem_toArray, List.getElem_cons_succ, List.getElem_cons_zero, List.setIfInBounds_toArray, List.set_cons_zero, List.set_cons_succ]
    refine wpAnyH_ready (rs := [6]) (by kernel_rfl) (by simp) ?_
    refine AllReadyH.cons rfl (fun K hK => ?_) (AllReadyH.nil)
    go_simp
    refine hK.out _ _ ⟨set_farB hnA (set_farB hnA n1), set_farB hnB (set_farB hnB n2), set_farB hnB (set_farB hnB n3)⟩ (fun hHeld3 => ?_)
    clear hK K hHeld2
    set_option linter.unusedSimpArgs false in try simp only [Act.put, List.getElem_toArray, List.getElem_cons_succ, List.getElem_cons_zero, List.setIfInBounds_toArray, List.set_cons_zero, List.set_cons_succ]
    refine wpAnyH_done (by kernel_rfl) ?_ _
    refine NormOnly.normal ?_
    refine ⟨sameFrom_set2 hBn (sameFrom_below (bstep hb5)), s + 1, rfl, ?_, ?_⟩
    · have := (bstep hb5).size; simp; omega
    · rw [HNX.out]; exact hI.step (bstep hb5) hgb hz
  case done =>
    rintro D s W hD hF ⟨h1, hI⟩ hK
    have hF' : s = (bitsL S).length := hF
    rw [hF', List.take_length] at hI
    have y0 := hI.next.cell 0
    have y1 := hI.next.cell 1
    simp at y0 y1
    have u0 := hI.res.cell 0
    have u1 := hI.res.cell 1
    simp at u0 u1
    have f0 := hI.res.frozen 0
    have f1 := hI.res.frozen 1
    obtain ⟨N, hN⟩ : ∃ N, allS G (bitsL S) = N := ⟨_, rfl⟩
    rw [hN] at hI y0 y1
    have HNN := Lib.hid hN
    clear hN
    gi_wp2
    have hR := (hI.res.set 0 (.int .u64 (loW N : Nat))).set 1 (.int .u64 (hiW N : Nat))
    simp at hR
    have hbw := (hI.below.setCell (p := ⟨w.heap.size + 1 + 1, 0, none⟩) (by show w.heap.size ≤ w.heap.size + 1 + 1; omega) (.int .u64 (loW N : Nat))).setCell (p := ⟨w.heap.size + 1 + 1, 1, none⟩) (by show w.heap.size ≤ w.heap.size + 1 + 1; omega) (.int .u64 (hiW N : Nat))
    have hK9 : ((W.setCell ⟨w.heap.size + 1 + 1, 0, none⟩ (.int .u64 (loW N : Nat))).setCell ⟨w.heap.size + 1 + 1, 1, none⟩ (.int .u64 (hiW N : Nat))).heap[D]? = some (.deferred (some [])) := (Below.heap_setCell _ _ _ _ (by show D ≠ w.heap.size + 1 + 1; omega)).trans ((Below.heap_setCell _ _ _ _ (by show D ≠ w.heap.size + 1 + 1; omega)).trans hK)
    generalize (W.setCell ⟨w.heap.size + 1 + 1, 0, none⟩ (.int .u64 (loW N : Nat))).setCell ⟨w.heap.size + 1 + 1, 1, none⟩ (.int .u64 (hiW N : Nat)) = W9 at hR hbw hK9 ⊢
    have hg := grownBy_putObj' W9 D (.deferred none)
    have hR9 := hR.grown hg (fun e => by injection e with e; omega)
    have e0 := hR9.cell 0
    have e1 := hR9.cell 1
    simp at e0 e1
    have hb10 : Below w.heap.size w (W9.putObj D (.deferred none)) := hbw.grown hg hbw.size (fun j e => by injection e with e; omega)
    refine ⟨by simp, .inl ⟨_, _, rfl, run_takeDeferred hK9, ?_⟩⟩
    refine ⟨.agg #[.int .u64 (loW N : Nat), .int .u64 (hiW N : Nat)], ?_, ?_⟩
    · simp [results, Tryz.f47, go_sem, e0, e1]
    · exact ⟨by rw [HNN.out], hb10⟩
  case stop =>
    intro D cd W hD h
    exact h.elim
end Go.Proofs.YtffkdidgfeknkaaGreatDoor
