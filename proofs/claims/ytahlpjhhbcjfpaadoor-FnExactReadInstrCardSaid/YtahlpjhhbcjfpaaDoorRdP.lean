/-
  Which instruction a text is the text of. No conditions.
-/
import Derived.Test.YtahlpjhhbcjfpaaDoorTxtP
import Derived.Test.YtahlpjhhbcjfpaaDoorDecLaws
import Derived.Test.YtahlpjhhbcjfpaaDoorCutLaws
import Derived.Lib.Strings
namespace Go.Proofs.YtahlpjhhbcjfpaaDoor

def isL (s : List UInt8) (op a : Int) : Prop := instrB op a = true ∧ lineL op a = s
def nmL (op : Int) : List UInt8 := (nmB op).data.toList
theorem nm_cases {P : Int → Prop} (h : P 0 ∧ P 1 ∧ P 2 ∧ P 3 ∧ P 4 ∧ P 5 ∧ P 6 ∧ P 7 ∧ P 8 ∧ P 9 ∧ P 10 ∧ P 11) (op : Int) (h0 : 0 ≤ op ∧ op ≤ 11) : P op := by
  have hc : op = 0 ∨ op = 1 ∨ op = 2 ∨ op = 3 ∨ op = 4 ∨ op = 5 ∨ op = 6 ∨ op = 7 ∨ op = 8 ∨ op = 9 ∨ op = 10 ∨ op = 11 := by omega
  obtain ⟨p0, p1, p2, p3, p4, p5, p6, p7, p8, p9, p10, p11⟩ := h
  rcases hc with rfl | rfl | rfl | rfl | rfl | rfl | rfl | rfl | rfl | rfl | rfl | rfl <;> assumption
theorem nm_free {op : Int} (h : 0 ≤ op ∧ op ≤ 11) : (32 : UInt8) ∉ nmL op :=
  nm_cases (P := fun op => (32 : UInt8) ∉ nmL op) (by decide) op h
theorem nm_inj {op op' : Int} (h : 0 ≤ op ∧ op ≤ 11) (h' : 0 ≤ op' ∧ op' ≤ 11) (e : nmL op = nmL op') : op = op' := by
  refine nm_cases (P := fun op => ∀ op' : Int, 0 ≤ op' ∧ op' ≤ 11 → nmL op = nmL op' → op = op') ?_ op h op' h' e
  refine ⟨?_, ?_, ?_, ?_, ?_, ?_, ?_, ?_, ?_, ?_, ?_, ?_⟩ <;> exact fun op' h' => nm_cases (P := fun op' => nmL _ = nmL op' → _ = op') (by decide) op' h'
theorem dec_free (u : Nat) : (32 : UInt8) ∉ Lib.decDigits u := by
  induction u using Nat.strongRecOn with
  | ind u ih =>
    have hd : ∀ d : Nat, d < 10 → ¬ (32 : UInt8) = UInt8.ofNat (48 + d) := fun d hd e => by
      have := congrArg UInt8.toNat e
      simp at this
      omega
    rw [Lib.decDigits]
    split
    · rename_i hlt
      simp only [List.mem_singleton]
      exact hd u hlt
    · rename_i hlt
      simp only [List.mem_append, List.mem_singleton, not_or]
      exact ⟨ih _ (by omega), hd _ (by omega)⟩
theorem itoa_free (n : Int) : (32 : UInt8) ∉ Lib.itoa n := by
  unfold Lib.itoa
  split
  · simp only [List.mem_cons, not_or]
    exact ⟨by decide, dec_free _⟩
  · exact dec_free _
theorem split_uniq : ∀ (p p' r r' : List UInt8), (32 : UInt8) ∉ p → (32 : UInt8) ∉ p' → p ++ 32 :: r = p' ++ 32 :: r' → p = p' ∧ r = r'
  | [], [], r, r', _, _, h => ⟨rfl, by simpa using h⟩
  | [], y :: p', r, r', _, h', h => by
    have : (32 : UInt8) = y := by have := List.cons.inj h; exact this.1
    exact absurd (by rw [this]; exact List.mem_cons_self) h'
  | x :: p, [], r, r', hp, _, h => by
    have : x = 32 := by have := List.cons.inj h; exact this.1
    exact absurd (by rw [this]; exact List.mem_cons_self) hp
  | x :: p, y :: p', r, r', hp, hp', h => by
    obtain ⟨h1, h2⟩ := List.cons.inj h
    obtain ⟨e1, e2⟩ := split_uniq p p' r r' (fun m => hp (List.mem_cons_of_mem _ m)) (fun m => hp' (List.mem_cons_of_mem _ m)) h2
    exact ⟨by rw [h1, e1], e2⟩
/-- A valid instruction whose operation takes no number has none. -/
theorem bare_zero {op a : Int} (h : instrB op a = true) (hh : ¬ 0 < hiB op) : a = 0 := by
  obtain ⟨h0, h1, h2, h3⟩ := instrB_parts h
  have hc : loB op = 0 ∧ hiB op = 0 := by
    refine nm_cases (P := fun op => ¬ 0 < hiB op → loB op = 0 ∧ hiB op = 0) (by decide) op ⟨h0, h1⟩ hh
  omega
theorem isL_unique {s : List UInt8} {op a op' a' : Int} (h : isL s op a) (h' : isL s op' a') : op = op' ∧ a = a' := by
  have l := (instrB_lim h.1).1
  have l' := (instrB_lim h'.1).1
  have e := h.2.trans h'.2.symm
  unfold lineL at e
  by_cases g : 0 < hiB op <;> by_cases g' : 0 < hiB op'
  · rw [if_pos g, if_pos g'] at e
    obtain ⟨e1, e2⟩ := split_uniq _ _ _ _ (nm_free l) (nm_free l') e
    exact ⟨nm_inj l l' e1, by have := congrArg valL e2; rwa [valL_itoa, valL_itoa] at this⟩
  · rw [if_pos g, if_neg g'] at e
    exact absurd (by show (32 : UInt8) ∈ nmL op'; unfold nmL; rw [← e]; simp) (nm_free l')
  · rw [if_neg g, if_pos g'] at e
    exact absurd (by show (32 : UInt8) ∈ nmL op; unfold nmL; rw [e]; simp) (nm_free l)
  · rw [if_neg g, if_neg g'] at e
    exact ⟨nm_inj l l' e, by rw [bare_zero h.1 g, bare_zero h'.1 g']⟩
def IsR (s : List UInt8) (r : (Int × Int) × Bool) : Prop := (isL s r.1.1 r.1.2 ∧ r.2 = true) ∨ ((∀ op a, ¬ isL s op a) ∧ r = ((0, 0), false))
theorem IsR.unique {s : List UInt8} {r r' : (Int × Int) × Bool} (h : IsR s r) (h' : IsR s r') : r = r' := by
  obtain ⟨⟨x, y⟩, b⟩ := r
  obtain ⟨⟨x', y'⟩, b'⟩ := r'
  rcases h with ⟨h1, h2⟩ | ⟨h1, h2⟩ <;> rcases h' with ⟨k1, k2⟩ | ⟨k1, k2⟩
  · obtain ⟨e1, e2⟩ := isL_unique h1 k1
    simp only at e1 e2 h2 k2
    rw [e1, e2, h2, k2]
  · exact absurd h1 (k1 _ _)
  · exact absurd k1 (h1 _ _)
  · rw [h2, k2]
end Go.Proofs.YtahlpjhhbcjfpaaDoor
