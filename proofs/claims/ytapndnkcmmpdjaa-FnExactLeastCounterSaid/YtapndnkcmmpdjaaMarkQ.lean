/-
  The marks that the law writes into a sequent. Conditions: at most 2^20 terms and coefficients.
-/
import Derived.Test.YtapndnkcmmpdjaaMarkTS
import Derived.Test.YtapndnkcmmpdjaaTermK
import Derived.Test.YtapndnkcmmpdjaaBlk
namespace Go.Proofs.Ytapndnkcmmpdjaa
open Go.RowKit

set_option maxRecDepth 100000 in
set_option maxHeartbeats 2000000 in
theorem markSequent_w (lo mid hi : Nat) (c0 : Int) (A : Option Addr) (n c : Nat) (ts : List (Int × List Int)) (D : Option Addr) (m d : Nat) (zs : List Int) (k0 : Int) (w : World) (h : OwnTS w lo mid A n c ts) (hl : OwnL w mid hi D m d zs) (h1 : lo ≤ mid) (h2 : mid ≤ hi)
    (hn : n ≤ 1048576) (he : totT ts ≤ 1048576) (hm : m ≤ 1048576) (hk1 : 0 ≤ k0) (hk2 : k0 ≤ 100000000) :
    Calls Try.prog 21 #[.agg #[.slice A n c, .int .i64 c0, .slice D m d], .int .i64 k0] w fun e w' => e = .returned (.int .i64 (k0 + ((n + totT ts : Nat) : Int) + (m : Int))) ∧ True ∧ Out lo hi w w' := by
  have hhi := hl.2.2.2
  have hb0 := bnew w (.cells #[.slice A n c, .int .i64 c0, .slice D m d] 43)
  have hP : BlkIs (w.alloc (.cells #[.slice A n c, .int .i64 c0, .slice D m d] 43)) w.heap.size 43 #[.slice A n c, .int .i64 c0, .slice D m d] := blk_new _ _ _ _ rfl
  have p0 : (w.alloc (.cells #[.slice A n c, .int .i64 c0, .slice D m d] 43)).cell? ⟨w.heap.size, 0, none⟩ = some (.slice A n c) := hP.cell 0
  have p1 : (w.alloc (.cells #[.slice A n c, .int .i64 c0, .slice D m d] 43)).cell? ⟨w.heap.size, 1, none⟩ = some (.int .i64 c0) := hP.cell 1
  have p2 : (w.alloc (.cells #[.slice A n c, .int .i64 c0, .slice D m d] 43)).cell? ⟨w.heap.size, 2, none⟩ = some (.slice D m d) := hP.cell 2
  have HM := Lib.hid (markTermS_w lo mid A n c ts k0 _ (h.next hb0) hn he hk1 hk2)
  have HL := Lib.hid (hl.next hb0)
  have hs := hb0.size
  clear h hl hP
  go_enter Try.func21, Try.ntmps21
  go_wp2_with fail
  generalize w.alloc (.cells #[.slice A n c, .int .i64 c0, .slice D m d] 43) = W at hb0 p0 p1 p2 HM HL hs ⊢
  refine HM.out.mono ?_
  rintro e w1 ⟨rfl, -, ho⟩
  have hs1 := ho.size
  have r1 := ho.cell p1 (by omega)
  have r2 := ho.cell p2 (by omega)
  have HT := Lib.hid (markTerm_k c0 mid hi D m d zs (k0 + ((n + totT ts : Nat) : Int)) w1 (HL.out.out ho (by omega)) (by omega) (by omega) (by omega))
  clear HM HL p0 p1 p2
  go_wp2_with fail
  refine HT.out.mono ?_
  rintro e w2 ⟨rfl, hown, ho2⟩
  go_wp2_with fail
  go_ret
  exact ⟨rfl, trivial, ((Out.of_below hb0).trans (ho.wide (Nat.le_refl _) h2)).trans (ho2.wide h1 (Nat.le_refl _))⟩
end Go.Proofs.Ytapndnkcmmpdjaa
