/-
  A range over a method value ('for x := range list.each'), whose receiver is bound ahead of yield: one law for the caller, told by states that the rounds go through. No conditions.
-/
import Derived.RangeFuncNested
import Derived.RangeFuncBound
import Derived.RangeFuncCalls
import Derived.RangeFuncLeaves
import Derived.Shelf.Abstract
import Derived.Shelf.RegionOpen
import Derived.OwnWalkIn
import Derived.TacticsInMore
import Derived.LoopNIn
import Derived.LoopIn
import Derived.Test.YtpdgnmdjneakgaaBase
namespace Go.Proofs.Ytpdgnmdjneakgaa
set_option linter.unusedVariables false
open Go.RowKit Go.Shelf

/-- How a round's body may be left: on to a further state, or by a jump. -/
def leftBy {σ : Type} (B : Nat) (I : σ → World → Prop) (St : σ → Prop) (Ix : Code → World → Prop) (W : World) : Exit → Act → World → Prop
  | .normal, _, W' => KeepsFrom B W W' ∧ ∃ s', St s' ∧ I s' W'
  | .ret, _, W' => KeepsFrom B W W' ∧ Ix .ret W'
  | .exit id, _, W' => KeepsFrom B W W' ∧ Ix (.exit id) W'
  | .goto t, _, W' => KeepsFrom B W W' ∧ Ix (.goto t) W'
  | .panic _, _, _ => False
  | .outgrown, _, _ => False

/-- What an iterator owes that is bound to a receiver: whatever the rounds do, if each leads from a state to a further one. -/
def Rounds {σ α : Type} (F : Fence) (n : Nat) (P : Program) (gf : Nat) (bd : Array Value) (encs : α → Array Value) (I : σ → World → Prop) (Nx : σ → α → Prop) (St : σ → σ → Prop) (Fin : σ → Prop) (s0 : σ) : Prop :=
  ∀ (l : Nat) (J : σ → World → Prop) (Jx : World → Prop) (W : World), (∀ s W1, J s W1 → I s W1) →
    (∀ s x W1, J s W1 → Nx s x → YieldAt F (n - 1) P l (encs x) W1 fun e W' => (e = .returned (.bool true) ∧ ∃ s', St s s' ∧ J s' W') ∨ (e = .returned (.bool false) ∧ Jx W')) →
    J s0 W → CallsIn F n P gf (bd ++ #[.func (.yield l) #[] #[]]) W fun e W' => (∃ v, e = .returned v) ∧ ((∃ s, Fin s ∧ J s W') ∨ Jx W')

theorem range_bound {σ α : Type} {F : Fence} {n : Nat} {P : Program} {g : Operand} {ps : Array Tmp} {assign body : Code} {Q : Exit → Act → World → Prop} {a : Act} {w : World}
    (hro : F.round = none) (h1 : 1 ≤ n) {gf : Nat} {bd : Array Value} (hg : a.eval g = .func (.func gf) bd #[]) (hF : F.fn gf) (eg : ∀ args w, (callFunc gf args).run P w = .ok (.enter gf args) w)
    {encs : α → Array Value} (hps : ∀ x, (encs x).size = ps.size)
    (I : σ → World → Prop) (Ix : Code → World → Prop) (hI : OwnFrom w.heap.size I) (hIx : OwnFrom w.heap.size Ix) {Nx : σ → α → Prop} {St : σ → σ → Prop} {Fin : σ → Prop} {s0 : σ} (h0 : I s0 w)
    (hseq : Rounds F (n - 1) P gf bd encs I Nx St Fin s0) (Ax : α → Act)
    (hassign : ∀ (l : Nat) (s : σ) (x : α) (W : World) (K : Act → World → Prop), I s W → K (Ax x) W → assign.wpIn (F.inRound l) (n - 1 - 1) P (Exit.then K (fun _ _ _ => False)) { tmps := (ps.zip (encs x)).foldl (fun t (p, v) => t.setIfInBounds p v) a.tmps, defers := [] } W)
    (hbody : ∀ (l : Nat) (s : σ) (x : α) (W : World), w.heap.size ≤ l → I s W → Nx s x → body.wpIn (F.inRound l) (n - 1 - 1) P (leftBy w.heap.size I (St s) Ix W) (Ax x) W)
    (hdone : ∀ (D : Nat) (s : σ) (W : World), w.heap.size ≤ D → Fin s → I s W → W.heap[D]? = some (.deferred (some [])) → Q .normal { a with defers := { target := .collected D, args := #[] } :: a.defers } W)
    (hstop : ∀ (D : Nat) (c : Code) (W : World), w.heap.size ≤ D → Ix c W → W.heap[D]? = some (.deferred (some [])) → c.wpIn F n P Q { a with defers := { target := .collected D, args := #[] } :: a.defers } W) :
    (Code.rangeFunc g ps assign body).wpIn F n P Q a w := by
  refine wpIn_rangeFunc fun fn hfn => ?_
  rw [hro]
  -- the record of the loop, by its state and the jump that is pending
  obtain ⟨rc, hrc⟩ : ∃ rc : LoopState → Option Code → Loop, ∀ st pe, rc st pe = { state := st, pending := pe, fn := fn, tmps := a.tmps, params := ps, assign := assign, body := body, defers := w.heap.size } := ⟨_, fun _ _ => rfl⟩
  obtain ⟨At, hAt⟩ : ∃ At : LoopState → Option Code → World → Prop, ∀ st pe W, At st pe W ↔ (W.heap[w.heap.size + 1]? = some (.loop (rc st pe)) ∧ W.heap[w.heap.size]? = some (.deferred (some []))) := ⟨_, fun _ _ _ => Iff.rfl⟩
  have turn : ∀ {W : World} {st : LoopState} {pe : Option Code} (st' : LoopState) (pe' : Option Code), At st pe W → At st' pe' (W.putObj (w.heap.size + 1) (.loop (rc st' pe'))) := fun st' pe' h => by
    obtain ⟨h1, h2⟩ := (hAt _ _ _).1 h
    exact (hAt _ _ _).2 ⟨World.putObj_heap_same (Array.getElem?_eq_some_iff.1 h1).1, (World.putObj_heap_other (by omega)).trans h2⟩
  have kept : ∀ {W W' : World} {st : LoopState} {pe : Option Code}, KeepsFrom w.heap.size W W' → At st pe W → At st pe W' := fun hk h => by
    obtain ⟨h1, h2⟩ := (hAt _ _ _).1 h
    exact (hAt _ _ _).2 ⟨hk.same _ _ (by omega) h1 rfl, hk.same _ _ (Nat.le_refl _) h2 rfl⟩
  have put : ∀ {W : World} {st : LoopState} {pe : Option Code} {s : σ} (st' : LoopState) (pe' : Option Code), At st pe W → I s W → I s (W.putObj (w.heap.size + 1) (.loop (rc st' pe'))) := fun st' pe' h hs =>
    hI.putObj _ hs (by omega) ((hAt _ _ _).1 h).1 rfl
  have putx : ∀ {W : World} {st : LoopState} {pe : Option Code} {c : Code} (st' : LoopState) (pe' : Option Code), At st pe W → Ix c W → Ix c (W.putObj (w.heap.size + 1) (.loop (rc st' pe'))) := fun st' pe' h hs =>
    hIx.putObj _ hs (by omega) ((hAt _ _ _).1 h).1 rfl
  have begin_ : ∀ {W : World}, At .ready none W → (Instr.beginRound (w.heap.size + 1)).run P W = .ok () (W.putObj (w.heap.size + 1) (.loop (rc .busy none))) := fun h => by
    have := run_beginRound (P := P) ((hAt _ _ _).1 h).1 (by rw [hrc])
    rw [this, hrc, hrc]
  have end_ : ∀ {W : World} (jump : Option Code), At .busy none W → (Instr.endRound (w.heap.size + 1) jump).run P W = .ok (.bool jump.isNone) (W.putObj (w.heap.size + 1) (.loop (rc (if jump.isNone then .ready else .done) jump))) := fun jump h => by
    have := run_endRound (P := P) jump ((hAt _ _ _).1 h).1
    rw [this, hrc, hrc]
  have leave : ∀ {W : World} {st : LoopState} {pe : Option Code}, st ≠ .busy → At st pe W → (Instr.endLoop (w.heap.size + 1)).run P W = .ok pe (W.putObj (w.heap.size + 1) (.loop (rc .exhausted pe))) := fun hne h => by
    have := run_endLoop (P := P) ((hAt _ _ _).1 h).1 (by rw [hrc]; exact hne)
    rw [this, hrc, hrc]
  have hst : At .ready none ((w.alloc (.deferred (some []))).alloc (.loop (rc .ready none))) := by
    refine (hAt _ _ _).2 ⟨?_, ?_⟩
    · have := World.alloc_heap_new (w.alloc (.deferred (some []))) (.loop (rc .ready none))
      rwa [World.size_alloc] at this
    · exact (Below.heap_alloc _ _ _ (by simp)).trans (World.alloc_heap_new w _)
  have hs0 : I s0 ((w.alloc (.deferred (some []))).alloc (.loop (rc .ready none))) := hI.alloc _ (hI.alloc _ h0)
  refine ⟨w.heap.size + 1, [{ target := .collected w.heap.size, args := #[] }], (w.alloc (.deferred (some []))).alloc (.loop (rc .ready none)), { target := .fn (.func gf) #[], args := bd ++ #[.func (.yield (w.heap.size + 1)) #[] #[]] }, (w.alloc (.deferred (some []))).alloc (.loop (rc .ready none)), gf,
    bd ++ #[.func (.yield (w.heap.size + 1)) #[] #[]], (w.alloc (.deferred (some []))).alloc (.loop (rc .ready none)), ?_, ?_, ?_, ?_, fun _ => h1, ?_⟩
  · rw [hrc]; exact run_enterLoop_outer _ _ _ _ _
  · simp only [resolve, hg]
    simp [go_sem]
  · intro f' hf'; simp [Target.leads] at hf'; subst hf'; exact hF
  · simp [invoke, go_sem, eg]
  · refine (hseq (w.heap.size + 1) (fun s W => I s W ∧ At .ready none W) (fun W => ∃ c, Ix c W ∧ At .done (some c) W) _ (fun s W1 h => h.1) ?_ ⟨hs0, hst⟩).mono ?_
    · rintro s x W ⟨hi, hat⟩ hx
      have hy := run_yield (P := P) (args := encs x) ((hAt _ _ _).1 hat).1 (by rw [hrc]; exact hps x)
      rw [hrc] at hy
      refine ⟨fn, _, assign, body, hy, roundIn_of_wpIn hfn (hassign _ s x W _ hi ⟨_, begin_ hat, ?_⟩)⟩
      refine wpIn_mono (hbody _ s x _ (by omega) (put .busy none hat hi) hx) ?_
      have hb := turn .busy none hat
      rintro e a3 W3 hp
      cases e with
      | normal =>
        obtain ⟨hk, s', hs', hi'⟩ := hp
        have hb3 := kept hk hb
        exact ⟨_, _, end_ none hb3, .inl ⟨rfl, s', hs', put .ready none hb3 hi', turn .ready none hb3⟩⟩
      | ret =>
        have hb3 := kept hp.1 hb
        exact ⟨_, _, end_ (some .ret) hb3, .inr ⟨rfl, _, putx .done (some .ret) hb3 hp.2, turn .done (some .ret) hb3⟩⟩
      | exit id =>
        have hb3 := kept hp.1 hb
        exact ⟨_, _, end_ (some (.exit id)) hb3, .inr ⟨rfl, _, putx .done (some (.exit id)) hb3 hp.2, turn .done (some (.exit id)) hb3⟩⟩
      | goto t =>
        have hb3 := kept hp.1 hb
        exact ⟨_, _, end_ (some (.goto t)) hb3, .inr ⟨rfl, _, putx .done (some (.goto t)) hb3 hp.2, turn .done (some (.goto t)) hb3⟩⟩
      | panic ch => exact hp.elim
      | outgrown => exact hp.elim
    · rintro e W2 ⟨⟨v, rfl⟩, (⟨s, hf, hi, hat⟩ | ⟨c, hi, hat⟩)⟩
      · exact ⟨none, _, leave (by simp) hat, hdone _ s _ (Nat.le_refl _) hf (put .exhausted none hat hi) ((hAt _ _ _).1 (turn .exhausted none hat)).2⟩
      · exact ⟨some c, _, leave (by simp) hat, hstop _ c _ (Nat.le_refl _) (putx .exhausted (some c) hat hi) ((hAt _ _ _).1 (turn .exhausted (some c) hat)).2⟩
end Go.Proofs.Ytpdgnmdjneakgaa
