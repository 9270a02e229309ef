/-
  Several texts in one: BoundV, SetV, Coll. Conditions: as each says.
-/
import Derived.Test.YtffkdidgfeknkaaGreatDoorBunF

/-! A range over a bound method value that has memory of its own, whose rounds may write into any memory that is theirs (the iterator reads its own no more): one law for the caller. No conditions. -/
namespace Go.Proofs.YtffkdidgfeknkaaGreatDoor
set_option linter.unusedVariables false
open Go.RowKit Go.Shelf

/-- How a round's body may be left: on to a further state, or by a jump. -/
def leftByV {σ : Type} (B : Nat) (I : σ → World → Prop) (St : σ → Prop) (Ix : Code → World → Prop) (W : World) : Exit → Act → World → Prop
  | .normal, _, W' => KeepsFrom B W W' ∧ ∃ s', St s' ∧ I s' W'
  | .ret, _, W' => KeepsFrom B W W' ∧ Ix .ret W'
  | .exit id, _, W' => KeepsFrom B W W' ∧ Ix (.exit id) W'
  | .goto t, _, W' => KeepsFrom B W W' ∧ Ix (.goto t) W'
  | .panic _, _, _ => False
  | .outgrown, _, _ => False

/-- What an iterator owes that is bound to a receiver and, once begun, reads no memory but what the state tells. -/
def RoundsV {σ α : Type} (F : Fence) (n : Nat) (P : Program) (gf : Nat) (bd : Array Value) (encs : α → Array Value) (I : σ → World → Prop) (Nx : σ → α → World → Prop) (St : σ → σ → Prop) (Fin : σ → Prop) (s0 : σ) : Prop :=
  ∀ (l : Nat) (J : σ → World → Prop) (Jx : World → Prop) (W : World), (∀ s W1, J s W1 → I s W1) → (∀ W1, J s0 W → Below W.heap.size W W1 → J s0 W1) →
    (∀ s x W1, W.heap.size ≤ W1.heap.size → J s W1 → Nx s x W1 → YieldAt F (n - 1) P l (encs x) W1 fun e W' => (e = .returned (.bool true) ∧ W1.heap.size ≤ W'.heap.size ∧ ∃ s', St s s' ∧ J s' W') ∨ (e = .returned (.bool false) ∧ Jx W')) →
    J s0 W → CallsIn F n P gf (bd ++ #[.func (.yield l) #[] #[]]) W fun e W' => (∃ v, e = .returned v) ∧ ((∃ s, Fin s ∧ J s W') ∨ Jx W')

theorem range_boundV {σ α : Type} {F : Fence} {n : Nat} {P : Program} {g : Operand} {ps : Array Tmp} {assign body : Code} {Q : Exit → Act → World → Prop} {a : Act} {w : World}
    (hro : F.round = none) (h1 : 1 ≤ n) {gf : Nat} {bd : Array Value} (hg : a.eval g = .func (.func gf) bd #[]) (hF : F.fn gf) (eg : ∀ args w, (callFunc gf args).run P w = .ok (.enter gf args) w)
    {encs : α → Array Value} (hps : ∀ x, (encs x).size = ps.size)
    (I : σ → World → Prop) (Ix : Code → World → Prop) (hI : OwnFrom w.heap.size I) (hIx : OwnFrom w.heap.size Ix) {Nx : σ → α → World → Prop} {s0 : σ} (hIW : ∀ W2, Below w.heap.size w W2 → I s0 W2) (hNx : ∀ s x W1 W2, Nx s x W1 → (∃ o : Obj, W1.heap[w.heap.size + 1]? = some o ∧ o.isCells = false) → (∀ k, k ≠ w.heap.size + 1 → W2.heap[k]? = W1.heap[k]?) → W1.heap.size ≤ W2.heap.size → Nx s x W2) {St : σ → σ → Prop} {Fin : σ → Prop} (h0 : I s0 w)
    (hseq : RoundsV F (n - 1) P gf bd encs I Nx St Fin s0) (Ax : α → Act)
    (hassign : ∀ (l : Nat) (s : σ) (x : α) (W : World) (K : Act → World → Prop), I s W → K (Ax x) W → assign.wpIn (F.inRound l) (n - 1 - 1) P (Exit.then K (fun _ _ _ => False)) { tmps := (ps.zip (encs x)).foldl (fun t (p, v) => t.setIfInBounds p v) a.tmps, defers := [] } W)
    (hbody : ∀ (l : Nat) (s : σ) (x : α) (W : World), w.heap.size ≤ l → I s W → Nx s x W → body.wpIn (F.inRound l) (n - 1 - 1) P (leftByV w.heap.size I (St s) Ix W) (Ax x) W)
    (hdone : ∀ (D : Nat) (s : σ) (W : World), w.heap.size ≤ D → Fin s → I s W → W.heap[D]? = some (.deferred (some [])) → Q .normal { a with defers := { target := .collected D, args := #[] } :: a.defers } W)
    (hstop : ∀ (D : Nat) (c : Code) (W : World), w.heap.size ≤ D → Ix c W → W.heap[D]? = some (.deferred (some [])) → c.wpIn F n P Q { a with defers := { target := .collected D, args := #[] } :: a.defers } W) :
    (Code.rangeFunc g ps assign body).wpIn F n P Q a w := by
  refine wpIn_rangeFunc fun fn hfn => ?_
  rw [hro]
  -- the record of the loop, by its state and the jump that is pending
  obtain ⟨rc, hrc⟩ : ∃ rc : LoopState → Option Code → Loop, ∀ st pe, rc st pe = { state := st, pending := pe, fn := fn, tmps := a.tmps, params := ps, assign := assign, body := body, defers := w.heap.size } := ⟨_, fun _ _ => rfl⟩
  obtain ⟨At, hAt⟩ : ∃ At : LoopState → Option Code → World → Prop, ∀ st pe W, At st pe W ↔ (W.heap[w.heap.size + 1]? = some (.loop (rc st pe)) ∧ W.heap[w.heap.size]? = some (.deferred (some []))) := ⟨_, fun _ _ _ => Iff.rfl⟩
  have turn : ∀ {W : World} {st : LoopState} {pe : Option Code} (st' : LoopState) (pe' : Option Code), At st pe W → At st' pe' (W.putObj (w.heap.size + 1) (.loop (rc st' pe'))) := fun st' pe' h => by
    obtain ⟨h1, h2⟩ := (hAt _ _ _).1 h
    exact (hAt _ _ _).2 ⟨World.putObj_heap_same (Array.getElem?_eq_some_iff.1 h1).1, (World.putObj_heap_other (by omega)).trans h2⟩
  have kept : ∀ {W W' : World} {st : LoopState} {pe : Option Code}, KeepsFrom w.heap.size W W' → At st pe W → At st pe W' := fun hk h => by
    obtain ⟨h1, h2⟩ := (hAt _ _ _).1 h
    exact (hAt _ _ _).2 ⟨hk.same _ _ (by omega) h1 rfl, hk.same _ _ (Nat.le_refl _) h2 rfl⟩
  have put : ∀ {W : World} {st : LoopState} {pe : Option Code} {s : σ} (st' : LoopState) (pe' : Option Code), At st pe W → I s W → I s (W.putObj (w.heap.size + 1) (.loop (rc st' pe'))) := fun st' pe' h hs =>
    hI.putObj _ hs (by omega) ((hAt _ _ _).1 h).1 rfl
  have putx : ∀ {W : World} {st : LoopState} {pe : Option Code} {c : Code} (st' : LoopState) (pe' : Option Code), At st pe W → Ix c W → Ix c (W.putObj (w.heap.size + 1) (.loop (rc st' pe'))) := fun st' pe' h hs =>
    hIx.putObj _ hs (by omega) ((hAt _ _ _).1 h).1 rfl
  have begin_ : ∀ {W : World}, At .ready none W → (Instr.beginRound (w.heap.size + 1)).run P W = .ok () (W.putObj (w.heap.size + 1) (.loop (rc .busy none))) := fun h => by
    have := run_beginRound (P := P) ((hAt _ _ _).1 h).1 (by rw [hrc])
    rw [this, hrc, hrc]
  have end_ : ∀ {W : World} (jump : Option Code), At .busy none W → (Instr.endRound (w.heap.size + 1) jump).run P W = .ok (.bool jump.isNone) (W.putObj (w.heap.size + 1) (.loop (rc (if jump.isNone then .ready else .done) jump))) := fun jump h => by
    have := run_endRound (P := P) jump ((hAt _ _ _).1 h).1
    rw [this, hrc, hrc]
  have leave : ∀ {W : World} {st : LoopState} {pe : Option Code}, st ≠ .busy → At st pe W → (Instr.endLoop (w.heap.size + 1)).run P W = .ok pe (W.putObj (w.heap.size + 1) (.loop (rc .exhausted pe))) := fun hne h => by
    have := run_endLoop (P := P) ((hAt _ _ _).1 h).1 (by rw [hrc]; exact hne)
    rw [this, hrc, hrc]
  have hst : At .ready none ((w.alloc (.deferred (some []))).alloc (.loop (rc .ready none))) := by
    refine (hAt _ _ _).2 ⟨?_, ?_⟩
    · have := World.alloc_heap_new (w.alloc (.deferred (some []))) (.loop (rc .ready none))
      rwa [World.size_alloc] at this
    · exact (Below.heap_alloc _ _ _ (by simp)).trans (World.alloc_heap_new w _)
  have hs0 : I s0 ((w.alloc (.deferred (some []))).alloc (.loop (rc .ready none))) := hI.alloc _ (hI.alloc _ h0)
  refine ⟨w.heap.size + 1, [{ target := .collected w.heap.size, args := #[] }], (w.alloc (.deferred (some []))).alloc (.loop (rc .ready none)), { target := .fn (.func gf) #[], args := bd ++ #[.func (.yield (w.heap.size + 1)) #[] #[]] }, (w.alloc (.deferred (some []))).alloc (.loop (rc .ready none)), gf,
    bd ++ #[.func (.yield (w.heap.size + 1)) #[] #[]], (w.alloc (.deferred (some []))).alloc (.loop (rc .ready none)), ?_, ?_, ?_, ?_, fun _ => h1, ?_⟩
  · rw [hrc]; exact run_enterLoop_outer _ _ _ _ _
  · simp only [resolve, hg]
    simp [go_sem]
  · intro f' hf'; simp [Target.leads] at hf'; subst hf'; exact hF
  · simp [invoke, go_sem, eg]
  · have hsz0 : ((w.alloc (.deferred (some []))).alloc (.loop (rc .ready none))).heap.size = w.heap.size + 2 := by simp
    refine (hseq (w.heap.size + 1) (fun s W => I s W ∧ At .ready none W) (fun W => ∃ c, Ix c W ∧ At .done (some c) W) _ (fun s W1 h => h.1) ?_ ?_ ⟨hs0, hst⟩).mono ?_
    · rintro W1 ⟨h1, h2⟩ hb
      rw [hsz0] at hb
      obtain ⟨a1, a2⟩ := (hAt _ _ _).1 h2
      have hbw : Below w.heap.size w ((w.alloc (.deferred (some []))).alloc (.loop (rc .ready none))) := ((Below.refl w.heap.size w).alloc (Nat.le_refl _) _).alloc (by simp) _
      exact ⟨hIW W1 (hbw.trans (hb.mono (by omega))), (hAt _ _ _).2 ⟨(hb.block _ (by omega)).trans a1, (hb.block _ (by omega)).trans a2⟩⟩
    · rintro s x W hWs ⟨hi, hat⟩ hx
      rw [hsz0] at hWs
      have hy := run_yield (P := P) (args := encs x) ((hAt _ _ _).1 hat).1 (by rw [hrc]; exact hps x)
      rw [hrc] at hy
      have hgb := grownBy_putObj' W (w.heap.size + 1) (.loop (rc .busy none))
      refine ⟨fn, _, assign, body, hy, roundIn_of_wpIn hfn (hassign _ s x W _ hi ⟨_, begin_ hat, ?_⟩)⟩
      refine wpIn_mono (hbody _ s x _ (by omega) (put .busy none hat hi) (hNx s x W _ hx ⟨_, ((hAt _ _ _).1 hat).1, rfl⟩ (fun k hk => World.putObj_heap_other hk) hgb.size)) ?_
      have hb := turn .busy none hat
      rintro e a3 W3 hp
      cases e with
      | normal =>
        obtain ⟨hk, s', hs', hi'⟩ := hp
        have hb3 := kept hk hb
        have hge := grownBy_putObj' W3 (w.heap.size + 1) (.loop (rc .ready none))
        exact ⟨_, _, end_ none hb3, .inl ⟨rfl, Nat.le_trans (Nat.le_trans hgb.size hk.size) hge.size, s', hs', put .ready none hb3 hi', turn .ready none hb3⟩⟩
      | ret =>
        have hb3 := kept hp.1 hb
        exact ⟨_, _, end_ (some .ret) hb3, .inr ⟨rfl, _, putx .done (some .ret) hb3 hp.2, turn .done (some .ret) hb3⟩⟩
      | exit id =>
        have hb3 := kept hp.1 hb
        exact ⟨_, _, end_ (some (.exit id)) hb3, .inr ⟨rfl, _, putx .done (some (.exit id)) hb3 hp.2, turn .done (some (.exit id)) hb3⟩⟩
      | goto t =>
        have hb3 := kept hp.1 hb
        exact ⟨_, _, end_ (some (.goto t)) hb3, .inr ⟨rfl, _, putx .done (some (.goto t)) hb3 hp.2, turn .done (some (.goto t)) hb3⟩⟩
      | panic ch => exact hp.elim
      | outgrown => exact hp.elim
    · rintro e W2 ⟨⟨v, rfl⟩, (⟨s, hf, hi, hat⟩ | ⟨c, hi, hat⟩)⟩
      · exact ⟨none, _, leave (by simp) hat, hdone _ s _ (Nat.le_refl _) hf (put .exhausted none hat hi) ((hAt _ _ _).1 (turn .exhausted none hat)).2⟩
      · exact ⟨some c, _, leave (by simp) hat, hstop _ c _ (Nat.le_refl _) (putx .exhausted (some c) hat hi) ((hAt _ _ _).1 (turn .exhausted (some c) hat)).2⟩
end Go.Proofs.YtffkdidgfeknkaaGreatDoor

/-! The elements of a set of places, given one after another to rounds that may write into any memory of theirs. Conditions: the library's table of the lowest bits as its initialiser lays it. -/
namespace Go.Proofs.YtffkdidgfeknkaaGreatDoor
set_option linter.unusedVariables false
open Go.RowKit Go.Shelf

set_option maxRecDepth 100000 in
set_option maxHeartbeats 4000000 in
theorem each_roundsV (S : Nat) (hS : S < 2 ^ 128) (n : Nat) (hn : 2 ≤ n) (I : Nat → World → Prop) (hM : ∀ s W, I s W → TabZ W) :
    RoundsV Fence.wide n Tryz.prog 39 #[.agg #[.int .u64 (loW S : Nat), .int .u64 (hiW S : Nat)]] (fun x : Nat => #[.int .i64 (x : Int)]) I (fun s x _ => (bitsL S)[s]? = some x) (fun s s' => s' = s + 1) (fun s => s = (bitsL S).length) 0 := fun l J Jx W0 hJI hJ hY h0 => by
  refine callsIn_of_wp Tryz.func39 rfl trivial ?_ rfl
  simp only [Tryz.ntmps39, List.size_toArray, List.length_cons, List.length_nil, Nat.reduceAdd, Nat.reduceSub, Array.replicate_succ, Array.replicate_zero, List.push_toArray, List.append_toArray, List.nil_append, List.cons_append]
  have hb0 := bnew W0 (.cells #[.int .u64 (loW S : Nat), .int .u64 (hiW S : Nat)] 68)
  have hX : BlkIs (W0.alloc (.cells #[.int .u64 (loW S : Nat), .int .u64 (hiW S : Nat)] 68)) W0.heap.size 68 #[.int .u64 (loW S : Nat), .int .u64 (hiW S : Nat)] := blk_new _ _ _ _ rfl
  have x0 := hX.cell 0
  have x1 := hX.cell 1
  simp at x0 x1
  have hJ0 := hJ _ h0 hb0
  have hl := loW_lt S
  have hh := hiW_lt hS
  have HL0 : Hid (LeftS S 0 (loW S) 0 ((bitsW (hiW S)).map (· + 64))) := ⟨by omega, by simp [bitsL], by simp [bitsL]⟩
  have HL1 : Hid (∀ s, LeftS S s 0 0 ((bitsW (hiW S)).map (· + 64)) → LeftS S s (hiW S) 64 []) := fun s h => ⟨by omega, by have h2 := h.2.1; rw [bitsW_zero] at h2; simp at h2 ⊢; omega, by have h3 := h.2.2; rw [bitsW_zero] at h3; simpa using h3⟩
  have HL2 : Hid (∀ s, LeftS S s 0 64 [] → s = (bitsL S).length) := fun s h => by have h2 := h.2.1; rw [bitsW_zero] at h2; simpa using h2
  have HT := Lib.hid (fun s W (h : J s W) => hM s W (hJI s W h))
  have HY := Lib.hid hY
  have hsz := hb0.size
  have hi0 := iw0 (loW S : Nat) (hiW S : Nat)
  have hi1 := iw1 (loW S : Nat) (hiW S : Nat)
  clear hM hJI hJ hY h0 hX
  gi_wp2
  generalize W0.alloc (.cells #[.int .u64 (loW S : Nat), .int .u64 (hiW S : Nat)] 68) = W1 at hb0 x0 x1 hJ0 hsz ⊢
  clear x0 x1 hb0
  gi_loopw [4, 5, 7] (fun _ _ i wr => ∃ (k : Int) (s : Nat), i = .int .i64 k ∧ J s wr ∧ W0.heap.size ≤ wr.heap.size ∧ ((k = 0 ∧ s = 0) ∨ (k = 1 ∧ Hid (LeftS S s 0 0 ((bitsW (hiW S)).map (· + 64)))) ∨ (k = 2 ∧ Hid (LeftS S s 0 64 [])))) (fun _ _ i _ => 2 - (intOf i).toNat)
  case atStart => exact ⟨0, 0, rfl, hJ0, hsz, .inl ⟨rfl, rfl⟩⟩
  case round =>
    clear hJ0 hsz
    obtain ⟨k, s, rfl, hJs, hsz, hk⟩ := hrel
    rcases hk with ⟨rfl, rfl⟩ | ⟨rfl, hk⟩ | ⟨rfl, hk⟩
    · have HST : Hid (LeftS S 0 (loW S) 0 ((bitsW (hiW S)).map (· + 64))) := Lib.hid HL0.out
      have hwx : loW S < 18446744073709551616 := hl
      gi_wp2
      gi_loopw [5] (fun v wr => ∃ (x s : Nat), v = .int .u64 (x : Int) ∧ x < 18446744073709551616 ∧ J s wr ∧ W0.heap.size ≤ wr.heap.size ∧ Hid (LeftS S s x 0 ((bitsW (hiW S)).map (· + 64)))) (fun v _ => (intOf v).toNat)
      case atStart => exact ⟨loW S, 0, rfl, hwx, hJs, hsz, HST⟩
      case round =>
        clear HST hwx hJs hsz
        obtain ⟨x, s, rfl, hx, hJs, hsz, hL⟩ := hrel
        by_cases h0 : x = 0
        · subst h0
          gi_wp2
          go_roundw
          case rel => exact ⟨1, s, by first | rfl | go_num, hJs, hsz, .inr (.inl ⟨rfl, hL⟩)⟩
          case measure => simp [intOf]
        · have e0 : ((x : Int) == 0) = false := by simp; exact h0
          obtain ⟨g1, g2, g3⟩ := hL.out.step h0
          have G2 := Lib.hid g2
          have wa : IntKind.u64.wrap ((x : Int) - 1) = ((x - 1 : Nat) : Int) := by rw [show (x : Int) - 1 = ((x - 1 : Nat) : Int) by omega]; exact IntWalk.u64_in _ (by omega)
          have wv := and_val x h0 hx
          have hlt : x &&& (x - 1) < x := Nat.lt_of_le_of_lt Nat.and_le_right (by omega)
          have TZ := Lib.hid (tz_c x hx wr (HT.out s wr hJs))
          rw [Nat.add_zero] at g1
          obtain ⟨fn, tmps, assign, body, hy, hR⟩ := HY.out s (Lib.ctz 64 x) wr hsz hJs g1
          (try dsimp only at hy)
          generalize Lib.ctz 64 x = z at g1 g3 TZ hy hR ⊢
          have wz : IntKind.i64.wrap ((z : Int)) = (z : Int) := IntWalk.i64_in _ (by omega)
          skip
          clear g1 g2 hL
          gi_wp2
          first | refine ⟨trivial, fun h => (by cases h), ?_⟩ | refine ⟨trivial, ?_⟩ | skip
          refine (callsIn_wide.2 TZ.out).mono ?_
          rintro e w2 ⟨rfl, rfl⟩
          gi_wp2
          first | refine hR.mono ?_ | refine ⟨fun h => (by cases h), hR.mono ?_⟩
          rintro e W3 (⟨rfl, hsf, s', rfl, hJ3⟩ | ⟨rfl, hJx3⟩)
          · gi_wp2
            go_roundw
            case rel => exact ⟨x &&& (x - 1), s + 1, rfl, by omega, hJ3, Nat.le_trans hsz hsf, G2⟩
            case measure => simp [intOf]; omega
          · gi_wp2
            refine bodyPost_ret (results_none rfl _ _ _) rfl ?_
            exact ⟨⟨_, rfl⟩, .inr hJx3⟩
    · have HST : Hid (LeftS S s (hiW S) 64 []) := Lib.hid (HL1.out s hk.out)
      have hwx : hiW S < 18446744073709551616 := hh
      gi_wp2
      gi_loopw [5] (fun v wr => ∃ (x s : Nat), v = .int .u64 (x : Int) ∧ x < 18446744073709551616 ∧ J s wr ∧ W0.heap.size ≤ wr.heap.size ∧ Hid (LeftS S s x 64 [])) (fun v _ => (intOf v).toNat)
      case atStart => exact ⟨hiW S, s, rfl, hwx, hJs, hsz, HST⟩
      case round =>
        clear HST hwx hJs hsz
        obtain ⟨x, s, rfl, hx, hJs, hsz, hL⟩ := hrel
        by_cases h0 : x = 0
        · subst h0
          gi_wp2
          go_roundw
          case rel => exact ⟨2, s, by first | rfl | go_num, hJs, hsz, .inr (.inr ⟨rfl, hL⟩)⟩
          case measure => simp [intOf]
        · have e0 : ((x : Int) == 0) = false := by simp; exact h0
          obtain ⟨g1, g2, g3⟩ := hL.out.step h0
          have G2 := Lib.hid g2
          have wa : IntKind.u64.wrap ((x : Int) - 1) = ((x - 1 : Nat) : Int) := by rw [show (x : Int) - 1 = ((x - 1 : Nat) : Int) by omega]; exact IntWalk.u64_in _ (by omega)
          have wv := and_val x h0 hx
          have hlt : x &&& (x - 1) < x := Nat.lt_of_le_of_lt Nat.and_le_right (by omega)
          have TZ := Lib.hid (tz_c x hx wr (HT.out s wr hJs))
          skip
          obtain ⟨fn, tmps, assign, body, hy, hR⟩ := HY.out s (Lib.ctz 64 x + 64) wr hsz hJs g1
          (try dsimp only at hy)
          generalize Lib.ctz 64 x = z at g1 g3 TZ hy hR ⊢
          have wz : IntKind.i64.wrap (64 + (z : Int)) = (z : Int) + 64 := by rw [show 64 + (z : Int) = (z : Int) + 64 by omega]; exact IntWalk.i64_in _ (by omega)
          rw [show ((z + 64 : Nat) : Int) = (z : Int) + 64 by omega] at hy
          clear g1 g2 hL
          gi_wp2
          first | refine ⟨trivial, fun h => (by cases h), ?_⟩ | refine ⟨trivial, ?_⟩ | skip
          refine (callsIn_wide.2 TZ.out).mono ?_
          rintro e w2 ⟨rfl, rfl⟩
          gi_wp2
          first | refine hR.mono ?_ | refine ⟨fun h => (by cases h), hR.mono ?_⟩
          rintro e W3 (⟨rfl, hsf, s', rfl, hJ3⟩ | ⟨rfl, hJx3⟩)
          · gi_wp2
            go_roundw
            case rel => exact ⟨x &&& (x - 1), s + 1, rfl, by omega, hJ3, Nat.le_trans hsz hsf, G2⟩
            case measure => simp [intOf]; omega
          · gi_wp2
            refine bodyPost_ret (results_none rfl _ _ _) rfl ?_
            exact ⟨⟨_, rfl⟩, .inr hJx3⟩
    · have hE := HL2.out s hk.out
      gi_wp2
      go_end0
      exact ⟨⟨_, rfl⟩, .inl ⟨s, hE, hJs⟩⟩
end Go.Proofs.YtffkdidgfeknkaaGreatDoor

/-! A list gathered from a set of places (slices.Collect of its elements). Conditions: the library's table of the lowest bits as its initialiser lays it. -/
namespace Go.Proofs.YtffkdidgfeknkaaGreatDoor
set_option linter.unusedVariables false
open Go.RowKit Go.Shelf
attribute [local go_sem] Oper.semAt_some

theorem infoCol : (Tryz.prog.info? 2).map (fun i => (i.zero, i.size, i.bytes)) = some (some (.int .i64 0), 1, 8) := by kernel_rfl
theorem own_cells_at {W : World} {lo : Nat} {e : TypeId} {k n g : Nat} {v : Value} {xs : List Value} (h : W.ownsRow lo e k v n xs) (hv : v.ownBlock = some g) : ∃ o : Obj, W.heap[g]? = some o ∧ o.isCells = true := by
  rcases h.2 with ⟨h', _⟩ | ⟨g', c', cur, h', hb, hg, _⟩
  · subst h'; cases hv
  · subst h'
    obtain rfl : g' = g := Option.some.inj hv
    exact ⟨_, hg, rfl⟩
theorem keeps_below {B : Nat} {W W' : World} (h : Below W.heap.size W W') : KeepsFrom B W W' := ⟨h.size, fun k o _ hk _ => (h.block k (Array.getElem?_eq_some_iff.1 hk).1).trans hk⟩
theorem keeps_grown {B : Nat} {W W' : World} {r : Option Nat} (h : W.grownBy W' r) (hr : ∀ g, r = some g → ∃ o : Obj, W.heap[g]? = some o ∧ o.isCells = true) : KeepsFrom B W W' :=
  ⟨h.size, fun k o _ hk ho => (h.block k (Array.getElem?_eq_some_iff.1 hk).1 (fun e => by
    obtain ⟨o', h1, h2⟩ := hr k e.symm
    rw [hk] at h1
    obtain rfl := Option.some.inj h1
    rw [h2] at ho; cases ho)).trans hk⟩
theorem keeps_set {B g i : Nat} {W : World} {u : Value} (hg : ∃ o : Obj, W.heap[g]? = some o ∧ o.isCells = true) : KeepsFrom B W (W.setCell ⟨g, i, none⟩ u) := keeps_grown (r := some g) only_set (fun q e => by obtain rfl := Option.some.inj e; exact hg)
theorem blk_cells {W : World} {g : Nat} {t : TypeId} {cs : Array Value} (h : BlkIs W g t cs) : ∃ o : Obj, W.heap[g]? = some o ∧ o.isCells = true := ⟨_, h, rfl⟩
/-- What has been gathered: the slice in its box, its row. -/
structure ColI (w : World) (sb : Nat) (L : List Int) (s : Nat) (A : Option Addr) (c : Nat) (W : World) : Prop where
  box : BlkIs W sb 28 #[.slice A (L.take s).length c]
  row : W.ownsRow w.heap.size 2 1 (.slice A (L.take s).length c) (L.take s).length ((L.take s).map ic)
  apart : ∀ g, (Value.slice A (L.take s).length c).ownBlock = some g → g ≠ sb
  tab : TabZ W
  low : Below w.heap.size w W
section
variable {w W W' : World} {sb s c : Nat} {L : List Int} {A : Option Addr}
theorem ColI.grown {r : Option Nat} (h : ColI w sb L s A c W) (hg : W.grownBy W' r) (hr : ∀ g, r = some g → w.heap.size ≤ g ∧ ∃ o : Obj, W.heap[g]? = some o ∧ o.isCells = false) (hz : 1 < w.heap.size) : ColI w sb L s A c W' := by
  have hne : ∀ g, (∃ o : Obj, W.heap[g]? = some o ∧ o.isCells = true) → some g ≠ r := fun g hc e => by
    obtain ⟨o, h1, h2⟩ := hc
    obtain ⟨o', h3, h4⟩ := (hr g e.symm).2
    rw [h1] at h3
    obtain rfl := Option.some.inj h3
    rw [h2] at h4; cases h4
  refine ⟨h.box.grown hg (hne _ (blk_cells h.box)), ?_, h.apart, fun j hj => ?_, h.low.grown hg h.low.size (fun j e => (hr j e).1)⟩
  · cases hv : (Value.slice A (L.take s).length c).ownBlock with
    | none => exact h.row.kept hg (.inl hv)
    | some g => exact h.row.kept hg (.inr (fun e => hne g (own_cells_at h.row hv) (hv.symm.trans e)))
  · have hc := h.tab j hj
    exact cell_grown hc hg (fun e => by have := (hr _ e.symm).1; omega)
theorem ColI.keep (h : ColI w sb L s A c W) (hb : Below W.heap.size W W') : ColI w sb L s A c W' :=
  ⟨h.box.next hb, own_below h.row hb, h.apart, h.tab.next hb, bon h.low hb⟩
end

set_option maxRecDepth 100000 in
set_option maxHeartbeats 8000000 in
theorem appendSeq_c (S : Nat) (w : World) (hS : S < 2 ^ 128) (hT : TabZ w) :
    Calls Tryz.prog 69 #[.slice none 0 0, .func (.func 39) #[.agg #[.int .u64 (loW S : Nat), .int .u64 (hiW S : Nat)]] #[]] w fun e w' => ∃ A c, e = .returned (.slice A ((bitsL S).map fun (i : Nat) => (i : Int)).length c) ∧ OwnL w' w.heap.size w'.heap.size A ((bitsL S).map fun (i : Nat) => (i : Int)).length c ((bitsL S).map fun (i : Nat) => (i : Int)) ∧ Below w.heap.size w w' := by
  obtain ⟨i0, hi, hz0, hz1, hz2⟩ := info_parts infoCol
  have hb0 := bnew w (.cells #[.slice none 0 0] 28)
  obtain ⟨L, hL⟩ : ∃ L, Hid ((bitsL S).map (fun (i : Nat) => (i : Int)) = L) := ⟨_, rfl⟩
  have hlen : (bitsL S).length = L.length := by rw [← hL.out, List.length_map]
  have hlen2 : L.length ≤ 128 := by rw [← hlen]; exact bitsL_len S
  have hat : ∀ (s x : Nat), (bitsL S)[s]? = some x → L[s]? = some (x : Int) := fun s x h => by rw [← hL.out, List.getElem?_map, h]; rfl
  rw [hL.out]
  have HLEN := Lib.hid hlen
  have HAT := Lib.hid hat
  have hI0 : ColI w w.heap.size L 0 none 0 (w.alloc (.cells #[.slice none 0 0] 28)) :=
    ⟨blk_new _ _ _ _ rfl, World.ownsRow_nil _ _ _ _, (fun g hg => by cases hg), hT.next hb0, hb0⟩
  have hsz : (w.alloc (.cells #[.slice none 0 0] 28)).heap.size = w.heap.size + 1 := by simp
  have hz : 1 < w.heap.size := cell_lt (hT 0 (by decide))
  clear hT hb0 hlen hat
  refine callsIn_wide.1 (?_ : CallsIn Fence.wide 5 Tryz.prog 69 _ w _)
  refine callsIn_of_wp_marks Tryz.func69 rfl trivial ?_ rfl
  simp only [Tryz.ntmps69, List.size_toArray, List.length_cons, List.length_nil, Nat.reduceAdd, Nat.reduceSub, Array.replicate_succ, Array.replicate_zero, List.push_toArray, List.append_toArray, List.nil_append, List.cons_append]
  gi_wp2
  generalize w.alloc (.cells #[.slice none 0 0] 28) = W0 at hI0 hsz ⊢
  obtain ⟨sb, hsb⟩ : ∃ sb, Hid (w.heap.size = sb) := ⟨_, rfl⟩
  have hI0' : ColI w sb L 0 none 0 W0 := by rw [← hsb.out]; exact hI0
  rw [show (.pointer (some ⟨w.heap.size, 0, none⟩) : Value) = .pointer (some ⟨sb, 0, none⟩) by rw [hsb.out]]
  clear hI0
  refine range_boundV (σ := Nat) (α := Nat) rfl (by omega) (gf := 39) (bd := #[.agg #[.int .u64 (loW S : Nat), .int .u64 (hiW S : Nat)]]) rfl trivial (enters_of Tryz.func39 (by kernel_rfl) rfl) (encs := fun x : Nat => #[.int .i64 (x : Int)]) (fun _ => rfl)
    (fun s W => W0.heap.size ≤ W.heap.size ∧ ∃ A c, ColI w sb L s A c W)
    (fun _ _ => False) ?own (fun _ _ _ _ h _ _ => h) (s0 := 0) ?iw ?nx ⟨Nat.le_refl _, none, 0, hI0'⟩
    (each_roundsV S hS 4 (by omega) _ (fun s W h => h.2.choose_spec.choose_spec.tab)) (fun x : Nat => { tmps := #[.slice none 0 0, .func (.func 39) #[.agg #[.int .u64 (loW S : Nat), .int .u64 (hiW S : Nat)]] #[], .pointer (some ⟨sb, 0, none⟩), undef, .slice none 0 0, .int .i64 (x : Int), .func (.func 39) #[.agg #[.int .u64 (loW S : Nat), .int .u64 (hiW S : Nat)]] #[], .int .i64 (x : Int), undef, undef, undef, undef, undef], defers := [] }) ?assign ?body ?done ?stop
  case own =>
    rintro s W W' row ⟨h1, A, c, h⟩ hg hr
    exact ⟨Nat.le_trans h1 hg.size, A, c, h.grown hg (fun j e => ⟨by have := (hr j e).1; omega, (hr j e).2⟩) hz⟩
  case iw => intro W2 hb; exact ⟨hb.size, none, 0, hI0'.keep hb⟩
  case nx => intro s x W1 W2 h _ _ _; exact h
  case assign =>
    intro l s x W K hI hK
    gi_wp2
    exact hK
  case body =>
    rintro l s x W hl ⟨h1, A, c, hI⟩ hx
    have hxL := HAT.out s x hx
    have hsl : s < L.length := (List.getElem?_eq_some_iff.1 hxL).1
    have htk : L.take (s + 1) = L.take s ++ [(x : Int)] := by rw [List.take_add_one, hxL]; rfl
    have htl : (L.take s).length = s := by rw [List.length_take]; omega
    obtain ⟨T, hTT⟩ : ∃ T, Hid (L.take s = T) := ⟨_, rfl⟩
    have hbox := hI.box
    have hrow := hI.row
    have hap := hI.apart
    rw [hTT.out] at hbox hrow hap htk htl
    have HTK := Lib.hid htk
    have b0 : W.cell? ⟨sb, 0, none⟩ = some (.slice A T.length c) := hbox.cell 0
    have hbn := bnew W (.cells #[.int .i64 (x : Int)] 2)
    have hk2 := own_below hrow hbn
    have hnews := one_new W (.int .i64 (x : Int)) 2 W.heap.size rfl
    have HC := Lib.hid (And.intro hk2 (And.intro hnews hbn))
    have HBX := Lib.hid (hbox.next hbn)
    have HAP := Lib.hid hap
    have HI := Lib.hid (And.intro hI.tab hI.low)
    have hTl : T.length ≤ 128 := by omega
    have HTL := Lib.hid htl
    have hwsz := hI.low.size
    clear hxL htk htl hbn hk2 hnews hI hbox hrow hap hx
    gi_wp2_with (gi_at_builtin; (refine wpListIn_append_sep rfl _ _ 28 rfl w.heap.size 2 i0 (.int .i64 0) 1 8 Tryz.underlying28 hi hz0 hz1 hz2 rfl (by decide) _ _ _ rfl HC.out.1 ⟨W.heap.size, 0, none⟩ 1 1 [.int .i64 (x : Int)] rfl rfl HC.out.2.1 (by simp [Value.oneCell']) (by unfold maxLen; omega) (by omega) (by simp; omega) (by omega) ?_); intro g3 c3 w3 hown3 hgrow3 hsep3; (have hb3 : BlkIs w3 sb 28 #[.slice A T.length c] := BlkIs.grown HBX.out hgrow3 (fun e => HAP.out sb (show (Value.slice A T.length c).ownBlock = some sb from e.symm) rfl)); (have z3 : w3.cell? ⟨sb, 0, none⟩ = some (.slice A T.length c) := hb3.cell 0); (have f3 := hb3.frozen 0))
    have hg9 : (W.alloc (.cells #[.int .i64 (x : Int)] 2)).grownBy w3 (Value.slice A T.length c).ownBlock := hgrow3
    have hs9 : some g3 = (Value.slice A T.length c).ownBlock ∨ (W.alloc (.cells #[.int .i64 (x : Int)] 2)).heap.size ≤ g3 := hsep3
    have hbn := HC.out.2.2
    have hne : g3 ≠ sb := by
      rcases hs9 with e | e
      · exact HAP.out g3 e.symm
      · have := HBX.out.lt; omega
    have hlo : ∀ j, (Value.slice A T.length c).ownBlock = some j → w.heap.size ≤ j := fun j e => (HC.out.1.lt j e).1
    have hset : BlkIs (w3.setCell ⟨sb, 0, none⟩ (.slice (some ⟨g3, 0, none⟩) (T.length + 1) c3)) sb 28 #[.slice (some ⟨g3, 0, none⟩) (T.length + 1) c3] := by
      have := hb3.set 0 (.slice (some ⟨g3, 0, none⟩) (T.length + 1) c3)
      simpa using this
    have hrow9 := ownsRow_setCell_other (a := ⟨sb, 0, none⟩) hown3 (fun e => hne (Option.some.inj e)) (.slice (some ⟨g3, 0, none⟩) (T.length + 1) c3)
    have hlen9 : (T ++ [(x : Int)]).length = T.length + 1 := by rw [List.length_append]; rfl
    refine ⟨((keeps_below hbn).trans (keeps_grown hg9 (fun q e => own_cells_at HC.out.1 e))).trans (keeps_set (blk_cells hb3)), s + 1, rfl, ?_, some ⟨g3, 0, none⟩, c3, ?_, ?_, ?_, fun j hj => ?_, ?_⟩
    · have := hbn.size; have := hg9.size; simp; omega
    · rw [HTK.out, hlen9]; exact hset
    · rw [HTK.out, hlen9, List.map_append]; exact hrow9
    · rw [HTK.out, hlen9]
      intro q e
      rw [← Option.some.inj (show some g3 = some q from e)]; exact hne
    · exact cell_grown (cell_grown (HI.out.1.next hbn j hj) hg9 (fun e => by have := hlo _ e.symm; omega)) only_set (fun e => by have := Option.some.inj e; have := hsb.out; omega)
    · exact ((bon HI.out.2 hbn).grown hg9 (Nat.le_trans hwsz hbn.size) hlo).setCell (p := ⟨sb, 0, none⟩) (by show w.heap.size ≤ sb; have := hsb.out; omega) _
  case done =>
    rintro D s W hD hF ⟨h1, A, c, hI⟩ hK
    have hF' : s = L.length := (show s = (bitsL S).length from hF).trans HLEN.out
    have hbox := hI.box
    have hrow := hI.row
    rw [hF', List.take_length] at hbox hrow
    have b0 : W.cell? ⟨sb, 0, none⟩ = some (.slice A L.length c) := hbox.cell 0
    have hlow := hI.low
    clear hI hF hF' hbox
    gi_wp2
    have hg := grownBy_putObj' W D (.deferred none)
    have hD9 : ∀ q, (Value.slice A L.length c).ownBlock = some q → some q ≠ some D := fun q e h => by
      obtain ⟨o, h2, h3⟩ := own_cells_at hrow e
      rw [Option.some.inj h, hK] at h2
      obtain rfl := Option.some.inj h2
      cases h3
    have hrow9 : (W.putObj D (.deferred none)).ownsRow w.heap.size 2 1 (.slice A L.length c) L.length (L.map ic) := by
      cases hv : (Value.slice A L.length c).ownBlock with
      | none => exact hrow.kept hg (.inl hv)
      | some q => exact hrow.kept hg (.inr (fun e => hD9 q hv (hv.symm.trans e)))
    have hb10 : Below w.heap.size w (W.putObj D (.deferred none)) := hlow.grown hg hlow.size (fun j e => by injection e with e; omega)
    refine ⟨by simp, .inl ⟨_, _, rfl, run_takeDeferred hK, ?_⟩⟩
    refine ⟨.slice A L.length c, ?_, ?_⟩
    · simp [results, Tryz.f69, go_sem]
    · exact ⟨A, c, rfl, OwnL.of_own hrow9, hb10⟩
  case stop =>
    intro D cd W hD h
    exact h.elim
set_option maxRecDepth 100000 in
set_option maxHeartbeats 2000000 in
theorem collect_c (S : Nat) (w : World) (hS : S < 2 ^ 128) (hT : TabZ w) :
    Calls Tryz.prog 36 #[.func (.func 39) #[.agg #[.int .u64 (loW S : Nat), .int .u64 (hiW S : Nat)]] #[]] w fun e w' => ∃ A c, e = .returned (.slice A ((bitsL S).map fun (i : Nat) => (i : Int)).length c) ∧ OwnL w' w.heap.size w'.heap.size A ((bitsL S).map fun (i : Nat) => (i : Int)).length c ((bitsL S).map fun (i : Nat) => (i : Int)) ∧ Below w.heap.size w w' := by
  have H := Lib.hid (appendSeq_c S w hS hT)
  obtain ⟨L, hL⟩ : ∃ L, Hid ((bitsL S).map (fun (i : Nat) => (i : Int)) = L) := ⟨_, rfl⟩
  rw [hL.out] at H ⊢
  go_enter Tryz.func36, Tryz.ntmps36
  go_wp2_with fail
  refine H.out.mono ?_
  rintro e w1 ⟨A, c, rfl, ho, hb⟩
  have HO := Lib.hid (And.intro ho hb)
  clear ho hb
  go_wp2_with fail
  go_ret
  exact ⟨A, c, rfl, HO.out.1, HO.out.2⟩
end Go.Proofs.YtffkdidgfeknkaaGreatDoor
