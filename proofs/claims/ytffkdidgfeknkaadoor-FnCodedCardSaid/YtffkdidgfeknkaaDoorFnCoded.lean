/-
  For all bytes, of the list and the string that are drawn from them: they are read back from their codes wherever these begin, codes without their last byte are none, and each number of the list is read back from its code.
  Conditions: those that the card itself bears (the tables that the program's text lays).
-/
import Derived.Test.YtffkdidgfeknkaaDoorRows
import Derived.WalkKit
import Derived.ProofKit
import Derived.OpenShut
import Derived.ShutString
import Derived.ChangeOld
import Derived.Below
import Derived.WalkSmall
import Derived.Test.YtffkdidgfeknkaaDoorTms
import Derived.Test.YtffkdidgfeknkaaDoorCards
import Derived.Test.YtffkdidgfeknkaaDoorTie
import Derived.ChangeSame
import Derived.ChangeVars
import Derived.JoinedOf
import Derived.RowKit
import Derived.RowKitTokens
import Derived.LaidLaws
import Derived.LaidHandle
import Derived.Stop.LaidErr
import Derived.Stop.Joined
import Derived.SevenTiedAt
import Derived.Test.YtffkdidgfeknkaaDoorByRow
import Derived.Test.YtffkdidgfeknkaaDoorHdL
import Derived.Test.YtffkdidgfeknkaaDoorBackT
import Derived.Test.YtffkdidgfeknkaaDoorGetN
import Derived.Test.YtffkdidgfeknkaaDoorPutT
import Derived.Test.YtffkdidgfeknkaaDoorPutN
import Derived.Test.YtffkdidgfeknkaaDoorDraw
import Derived.Test.YtffkdidgfeknkaaDoorDrwY
import Derived.Test.YtffkdidgfeknkaaDoorSame8
namespace Go.Proofs.YtffkdidgfeknkaaDoor.fnCoded
open Go.ChangeShapes Go.WideShapes Go.ChangeAt Go.RowKit
open Go.ChangeMaps (open_string shut_string)
set_option linter.unusedVariables false

theorem own : ownKnob Tryd.prog.godebug = none := by kernel_rfl
theorem laidOut : laidOutB Tryd.prog = true := by kernel_rfl
theorem bonC {w0 w w1 : World} (h : Below w0.heap.size w0 w) (h1 : Below w.heap.size w w1) : Below w0.heap.size w0 w1 := h.trans (h1.mono h.size)
theorem codedOf {zs : List Int} (h : ∀ z ∈ zs, InC z) (hl : zs.length ≤ 100) : codedB zs = true := by
  unfold codedB
  rw [decide_eq_true h, decide_eq_true hl]; rfl
/-- What the strings of the law give when they are read. -/
structure Facts (zs : List Int) (F Sa Sb : ByteArray) : Prop where
  la : 1 ≤ Sa.size ∧ Sa.size ≤ 909
  lb : 1 ≤ Sb.size ∧ Sb.size ≤ 40
  whole : (F ++ Sa ++ Sb).size = F.size + Sa.size + Sb.size
  list : getL (F ++ Sa ++ Sb) F.size = some (zs, F.size + Sa.size)
  text : getT (F ++ Sa ++ Sb) (F.size + Sa.size) = some (F, (F ++ Sa ++ Sb).size)
  noL : ∀ k, k < Sa.size → getL (Sa.extract 0 k) 0 = none
  noT : ∀ k, k < Sb.size → getT (Sb.extract 0 k) 0 = none
  num : ∀ z ∈ zs, (bstr (digs (zz z)) ++ Sa).size ≤ 2000 ∧ getN (bstr (digs (zz z)) ++ Sa) 0 = some (z, (bstr (digs (zz z))).size)
theorem facts_of {zs : List Int} {F : ByteArray} (hc : codedB zs = true) (hF : F.size ≤ 12) : Facts zs F (bstr (codeL zs)) (bstr (digs (zz F.size)) ++ F) := by
  have hl := codeL_pos zs
  have hl2 := codeT_len hc zs.length
  rw [codeT_end (Nat.le_refl _)] at hl2
  have hd1 := digs_pos (zz F.size)
  have hd9 : (digs (zz F.size)).length ≤ 9 := digs_len9 (by unfold zz; split <;> omega)
  have ebs : bstr (digs (zz F.size)) ++ F = bstr (digs (zz F.size) ++ sb F) := by rw [bstr_app, bstr_of]
  have eb : (bstr (digs (zz F.size)) ++ F).size = (digs (zz F.size)).length + F.size := by rw [ByteArray.size_append, bstr_size]
  have hlt : ∀ d ∈ digs (zz F.size) ++ sb F, d < 256 := by
    intro d hd
    rcases List.mem_append.1 hd with h | h
    · exact digs_lt _ d h
    · unfold sb at h
      obtain ⟨b, _, rfl⟩ := List.mem_map.1 h
      exact b.toNat_lt
  have ew : sb (F ++ bstr (codeL zs) ++ (bstr (digs (zz F.size)) ++ F)) = sb F ++ (codeL zs ++ (digs (zz F.size) ++ sb F)) := by
    rw [sb_app, sb_app, sb_app, sb_bstr (codeL_lt zs), sb_bstr (digs_lt _), List.append_assoc]
  have ews : (F ++ bstr (codeL zs) ++ (bstr (digs (zz F.size)) ++ F)).size = F.size + (bstr (codeL zs)).size + (bstr (digs (zz F.size)) ++ F).size := by
    rw [ByteArray.size_append, ByteArray.size_append]
  refine ⟨?_, ?_, ews, ?_, ?_, ?_, ?_, ?_⟩
  · rw [bstr_size]; exact ⟨hl, hl2⟩
  · rw [eb]; omega
  · have h := getL_back hc (has_of ew)
    rw [sb_len] at h
    rw [bstr_size]; exact h
  · have ew2 : sb (F ++ bstr (codeL zs) ++ (bstr (digs (zz F.size)) ++ F)) = (sb F ++ codeL zs) ++ (digs (zz F.size) ++ (sb F ++ [])) := by rw [ew, List.append_nil, List.append_assoc]
    have h := getT_back (by omega) ew2
    rw [List.length_append, sb_len] at h
    rw [ews, bstr_size, eb, h]
    congr 2; omega
  · intro k hk
    rw [bstr_size] at hk
    have hsz : ((bstr (codeL zs)).extract 0 k).size = k := by rw [ByteArray.size_extract, bstr_size]; omega
    exact getL_short hc (Nat.zero_le _) (pre_cut (codeL_lt zs) k) (by omega)
  · intro k hk
    rw [eb] at hk
    rw [ebs]
    have hsz : ((bstr (digs (zz F.size) ++ sb F)).extract 0 k).size = k := by rw [ByteArray.size_extract, bstr_size, List.length_append, sb_len]; omega
    exact getT_short (by omega) (pre_cut hlt k) (by rw [List.length_append, sb_len]; omega)
  · intro z hz
    have hin := coded_in hc z hz
    have hz9 : (digs (zz z)).length ≤ 9 := digs_len9 (zz_le hin)
    refine ⟨by rw [ByteArray.size_append, bstr_size, bstr_size]; omega, ?_⟩
    have e : sb (bstr (digs (zz z)) ++ bstr (codeL zs)) = [] ++ (digs (zz z) ++ codeL zs) := by rw [sb_app, sb_bstr (digs_lt _), sb_bstr (codeL_lt zs)]; rfl
    have h := getN_back hin (has_of e)
    rw [bstr_size]
    simpa using h
theorem getList_none (s : ByteArray) (w : World) (h : getL s 0 = none) (hs : s.size ≤ 140737488355328) (hd : Hd w) :
    Calls Tryd.prog 11 #[.string s, .int .i64 0] w fun e w' => e = .returned (.tuple #[.slice none 0 0, .int .i64 0, .bool false]) ∧ Below w.heap.size w w' := by
  refine (getList_yes s 0 w (Nat.zero_le _) hs hd).mono ?_
  rintro e w' ⟨he, hb⟩
  rw [h] at he
  exact ⟨he, hb⟩
theorem getText_none (s : ByteArray) (w : World) (h : getT s 0 = none) (hs : s.size ≤ 140737488355328) (hd : Hd w) :
    Calls Tryd.prog 12 #[.string s, .int .i64 0] w fun e w' => e = .returned (.tuple #[.string ⟨#[]⟩, .int .i64 0, .bool false]) ∧ Below w.heap.size w w' := by
  refine (getText_yes s 0 w (Nat.zero_le _) hs hd).mono ?_
  rintro e w' ⟨he, hb⟩
  rw [h] at he
  exact ⟨he, hb⟩
theorem getNumber_zero (s : ByteArray) (z : Int) (q : Nat) (w : World) (h : getN s 0 = some (z, q)) (hs : s.size ≤ 140737488355328) (hd : Hd w) :
    Calls Tryd.prog 15 #[.string s, .int .i64 0] w fun e w' => e = .returned (.tuple #[.int .i64 z, .int .i64 q, .bool true]) ∧ Below w.heap.size w w' := by
  refine (getNumber_yes s 0 w (Nat.zero_le _) hs hd).mono ?_
  rintro e w' ⟨he, hb⟩
  rw [h] at he
  exact ⟨he, hb⟩

set_option maxRecDepth 100000 in
set_option maxHeartbeats 8000000 in
theorem walk (a0 : Option Addr) (len0 cap0 : Nat) (z0 : List Int) (a1 : Option Addr) (len1 cap1 : Nat) (z1 : List Int) (w : World) (hT : Hd w) (w0 : IsRow .u8 w a0 len0 cap0 z0) (w1 : IsRow .u8 w a1 len1 cap1 z1) :
    Calls Tryd.prog 3 #[.slice a0 len0 cap0, .slice a1 len1 cap1] w fun e w' => e = .returned (.bool true) ∧ Below w.heap.size w w' := by
  obtain ⟨hrow0, hlen0, hwf0⟩ := w0.row
  obtain ⟨hrow1, hlen1, hwf1⟩ := w1.row
  obtain ⟨bs0, hbs0, hb0⟩ := bytes_of hwf0
  obtain ⟨bs1, hbs1, hb1⟩ := bytes_of hwf1
  rw [hbs0] at hrow0 hlen0
  rw [hbs1] at hrow1 hlen1
  rw [List.map_map] at hrow0 hrow1
  rw [List.length_map] at hlen0 hlen1
  change Row w w.heap.size a0 (bs0.map bc) at hrow0
  change Row w w.heap.size a1 (bs1.map bc) at hrow1
  clear hbs0 hbs1 w0 w1 hwf0 hwf1
  by_cases hl0 : (48 : Int) < len0
  · go_enter Tryd.func3, Tryd.ntmps3
    go_wp2
    go_ret
    exact ⟨rfl, Below.refl _ _⟩
  by_cases hl1 : (48 : Int) < len1
  · go_enter Tryd.func3, Tryd.ntmps3
    go_wp2
    go_ret
    exact ⟨rfl, Below.refl _ _⟩
  have HR0 := Lib.hid hrow0
  have HR1 := Lib.hid hrow1
  have HB0 := Lib.hid hb0
  have HB1 := Lib.hid hb1
  have HT := Lib.hid hT
  clear hrow0 hrow1 hb0 hb1 hT
  go_enter Tryd.func3, Tryd.ntmps3
  go_wp2_with (first | (go_at_call 6; go_in))
  refine (R8List_c a0 len0 cap0 bs0 w HR0.out hlen0 HB0.out (by omega)).mono ?_
  rintro e v1 ⟨v, zs, rfl, hz7, hin, hown, hb1⟩
  obtain ⟨A, c, rfl, hrow⟩ := own_slice hown
  obtain ⟨n, hn⟩ : ∃ n, zs.length = n := ⟨_, rfl⟩
  rw [hn] at hz7 ⊢
  have HN := Lib.hid hn
  have HCO := Lib.hid (codedOf hin (by omega))
  have HIN := Lib.hid hin
  have HRW := Lib.hid (fun W (h : Below v1.heap.size v1 W) => (hrow.below h (Nat.le_refl _)).more h.size)
  have HR2 := Lib.hid ((HR1.out.below hb1 (Nat.le_refl _)).more hb1.size)
  have HB := Lib.hid hb1
  have HT1 := Lib.hid (HT.out.below hb1 HT.out.lt)
  clear hin hown hrow hn HR0 HR1 HB0 HT hb1
  go_wp2_with fail
  refine (R8Bytes_c a1 len1 cap1 bs1 v1 HR2.out hlen1 HB1.out (by omega)).mono ?_
  rintro e v2 ⟨F, rfl, hF, hb2⟩
  have HFA := Lib.hid (facts_of HCO.out hF)
  have HT2 := Lib.hid (HT1.out.below hb2 HT1.out.lt)
  have HW2 := Lib.hid hb2
  clear hb2 HR2 HB1 HT1
  go_wp2_with fail
  refine (implPutList_c A n c v2.heap.size zs v2 (HRW.out _ HW2.out) (Nat.le_refl _) HN.out HCO.out).mono ?_
  rintro e v3 ⟨rfl, hb3⟩
  obtain ⟨Sa, hSa⟩ : ∃ s, bstr (codeL zs) = s := ⟨_, rfl⟩
  rw [hSa] at HFA ⊢
  have HT3 := Lib.hid (HT2.out.below hb3 HT2.out.lt)
  have HW3 := Lib.hid (bonC HW2.out hb3)
  clear hSa hb3 HT2 HW2
  go_wp2_with fail
  refine (putText_yes F v3 (by omega)).mono ?_
  rintro e v4 ⟨rfl, hb4⟩
  obtain ⟨Sb, hSb⟩ : ∃ s, bstr (digs (zz F.size)) ++ F = s := ⟨_, rfl⟩
  rw [hSb] at HFA ⊢
  have HT4 := Lib.hid (HT3.out.below hb4 HT3.out.lt)
  have HW4 := Lib.hid (bonC HW3.out hb4)
  clear hSb hb4 HT3 HW3
  obtain ⟨la1, la2⟩ := HFA.out.la
  obtain ⟨lb1, lb2⟩ := HFA.out.lb
  have ea : ((Sa.size : Int) == 0) = false := beq_eq_false_iff_ne.2 (by omega)
  have eb : ((Sb.size : Int) == 0) = false := beq_eq_false_iff_ne.2 (by omega)
  have na : ¬ Sa = ByteArray.empty := by rintro rfl; simp at la1
  have nb : ¬ Sb = ByteArray.empty := by rintro rfl; simp at lb1
  have ews := HFA.out.whole
  have k1 := HFA.out.list
  have k2 := HFA.out.text
  obtain ⟨Wh, hWh⟩ : ∃ s, Hid (F ++ Sa ++ Sb = s) := ⟨_, rfl⟩
  rw [hWh.out] at ews k1 k2
  have K1 := Lib.hid k1
  have K2 := Lib.hid k2
  clear k1 k2
  go_wp2_with fail
  rw [hWh.out]
  refine (getList_yes Wh F.size v4 (by omega) (by omega) HT4.out).mono ?_
  rintro e v5 ⟨hg5, hb5⟩
  rw [K1.out] at hg5
  obtain ⟨bv, rfl, _, hown5⟩ := hg5
  obtain ⟨A2, c2, rfl, hrow5⟩ := own_slice hown5
  rw [HN.out] at hown5 ⊢
  have HRB := Lib.hid (fun W (h : Below v5.heap.size v5 W) => (hrow5.below h (Nat.le_refl _)).more h.size)
  have HT5 := Lib.hid (HT4.out.below hb5 HT4.out.lt)
  have HW5 := Lib.hid (bonC HW4.out hb5)
  clear hb5 HT4 HW4 hown5 hrow5
  go_wp2_with fail
  refine (getText_yes Wh (F.size + Sa.size) v5 (by omega) (by omega) HT5.out).mono ?_
  rintro e v6 ⟨he, hb6⟩
  obtain rfl : e = .returned (.tuple #[.string F, .int .i64 Wh.size, .bool true]) := by rw [he, K2.out]; rfl
  clear he
  have HT6 := Lib.hid (HT5.out.below hb6 HT5.out.lt)
  have HW6 := Lib.hid (bonC HW5.out hb6)
  have HB6 := Lib.hid hb6
  clear hb6 HT5 HW5
  go_wp2_with fail
  refine (r8SameL_c A2 n c2 A c zs v6 (HRB.out _ HB6.out) (HRW.out _ HW6.out) HN.out (by omega)).mono ?_
  rintro e v7 ⟨rfl, hb7⟩
  have HT7 := Lib.hid (HT6.out.below hb7 HT6.out.lt)
  have HW7 := Lib.hid (bonC HW6.out hb7)
  clear hb7 HT6 HW6 HB6 HRB
  have c1 : (1 : Int) ≤ Sa.size := by omega
  have c3 : (1 : Int) ≤ Sb.size := by omega
  go_wp2_with fail
  refine (getList_none _ v7 (HFA.out.noL _ (by omega)) (by rw [ByteArray.size_extract]; omega) HT7.out).mono ?_
  rintro e v8 ⟨rfl, hb8⟩
  have HT8 := Lib.hid (HT7.out.below hb8 HT7.out.lt)
  have HW8 := Lib.hid (bonC HW7.out hb8)
  clear hb8 HT7 HW7
  go_wp2_with fail
  refine (getText_none _ v8 (HFA.out.noT _ (by omega)) (by rw [ByteArray.size_extract]; omega) HT8.out).mono ?_
  rintro e v9 ⟨rfl, hb9⟩
  have HT9 := Lib.hid (HT8.out.below hb9 HT8.out.lt)
  have HW9 := Lib.hid (bonC HW8.out hb9)
  have HNUM := Lib.hid HFA.out.num
  have HNL := HN
  clear hb9 HT8 HW8 K1 K2 HFA ews
  go_wp2_with fail
  go_loopw [25, 26, 27, 28, 29, 30] (fun i _ _ _ _ _ wr => ∃ k : Nat, i = .int .i64 k ∧ k ≤ n ∧ Hid (Below v1.heap.size v1 wr) ∧ Hid (Hd wr)) (fun i _ _ _ _ _ _ => (n - intOf i).toNat)
  case atStart => exact ⟨0, rfl, Nat.zero_le _, HW9, HT9⟩
  case round =>
    clear HT9 HW9
    rename World => wr
    obtain ⟨k, rfl, hk, hbel, hT⟩ := hrel
    by_cases hlt : k < n
    · obtain ⟨b, off, z, rfl, hb, hz, hc⟩ := (HRW.out _ hbel.out).int_at (k := k) (by rw [HN.out]; exact hlt)
      have hzm := List.mem_of_getElem? hz
      have hzi : InC z := HIN.out z hzm
      obtain ⟨hz1, hz2⟩ := hzi
      obtain ⟨hsz, hnum⟩ := HNUM.out z hzm
      have HC := Lib.hid (fun W (h : Below wr.heap.size wr W) => show W.cell? ⟨b, off + k, none⟩ = some (.int .i64 z) from (h.cell (p := ⟨b, off + k, none⟩) hb).trans hc)
      have HNM := Lib.hid hnum
      clear hz hzm hnum
      go_wp2_with fail
      refine (putNumber_yes z wr hz1 hz2).mono ?_
      rintro e w1 ⟨rfl, hb1⟩
      obtain ⟨C, hC⟩ : ∃ s, bstr (digs (zz z)) = s := ⟨_, rfl⟩
      rw [hC] at HNM hsz ⊢
      have hcs : C.size + Sa.size ≤ 2000 := by rw [ByteArray.size_append] at hsz; exact hsz
      have HT1 := Lib.hid (hT.out.below hb1 hT.out.lt)
      have HB1 := Lib.hid hb1
      clear hb1 hC hc
      go_wp2_with fail
      refine (getNumber_zero (C ++ Sa) z C.size w1 HNM.out (by omega) HT1.out).mono ?_
      rintro e w2 ⟨rfl, hb2⟩
      have HB2 := Lib.hid (bonC HB1.out hb2)
      have HT2 := Lib.hid (HT1.out.below hb2 HT1.out.lt)
      have hc2 := HC.out _ HB2.out
      clear hb2 HT1 HB1
      go_wp2_with fail
      go_roundw
      case rel => exact ⟨k + 1, by go_num, by omega, Lib.hid (bonC hbel.out HB2.out), HT2⟩
      case measure => simp [intOf]; omega
    · obtain rfl : k = n := by omega
      go_wp2_with fail
      go_ret
      exact ⟨rfl, bonC HB.out hbel.out⟩

/-- The cells of a table. -/
def litCells : DataW Unit → List Value
  | .lit (.int k z) => [Value.int k z]
  | .lit (.bool b) => [Value.bool b]
  | .lit (.string l) => [Value.string ⟨l.toArray⟩]
  | _ => []
def tabCells : DataW Unit → List Value
  | .agg l => l.flatMap fun x => match x with
    | .agg r => r.flatMap litCells
    | x => litCells x
  | _ => []
/-- A world that meets the list. -/
noncomputable def laidWorld (os : Os) : World :=
  let w0 := World.holding Tryd.prog os ⟨#[], #[], []⟩
  let put (g : Nat) (d : DataW Unit) (h : Array Obj) : Array Obj := h.modify g fun
      | .cells _ t frozen => .cells (tabCells d).toArray t frozen
      | o => o
  let hdl (g : Nat) (h : Array Obj) : Array Obj := h.modify g fun
      | .cells _ t frozen => .cells #[.iface 158 (.agg #[.pointer (some ⟨5, 109, none⟩)])] t frozen
      | o => o
  { w0 with heap := hdl 1 w0.heap }
theorem laidWorld_met (os : Os) (args : Array Value) : laidMetH Tryd.prog Rows.fnCodedRow.laid ((laidWorld os).forCall (fun _ _ => 0) ⟨#[], args, []⟩).memory :=
  laidMetH_of_parts (laidMet_of_run' 8 (by kernel_rfl) (by kernel_rfl)) (by kernel_rfl)

set_option maxRecDepth 100000 in
set_option maxHeartbeats 4000000 in
theorem lifted (os : Os) (started : os.Started) (H : Type) (enc : TypeId × Value → H) :
    ReturnsInHanded {} Tryd.checked os 3 .any (fun w args => (Rows.fnCodedSpec.pre enc Tryd.prog Tryd.f3 [] false w args ∧ laidMetH Tryd.prog Rows.fnCodedRow.laid w) ∧ sizedMet enc Tryd.prog Tryd.f3 (OpenSpec.ofChange Rows.fnCodedSpec) false w args) (Rows.fnCodedSpec.post enc Tryd.prog Tryd.f3 false true false false) := by
  refine returnsInHanded_of_change_and (C := Tryd.checked) (X := fun w _ => laidMetH Tryd.prog Rows.fnCodedRow.laid w) (fun _ _ _ hh h => h.of_heap hh) own started (by kernel_rfl) Tryd.func3
    (ChangeSpec.witness_at (enc := enc) (C := Tryd.checked) (os := os) (X := fun w _ => laidMetH Tryd.prog Rows.fnCodedRow.laid w) false (laidWorld os) #[.slice none 0 0, .slice none 0 0] 8 rfl (by kernel_rfl) (by kernel_rfl) (by kernel_rfl) (by kernel_rfl) (by kernel_rfl) (laidWorld_met os _)) ?_
  intro W base args ds gs before hval0 hW _ _ hL _
  have hval : ∀ (j : Nat) t v, Tryd.f3.params[j]? = some t → args[j]? = some v → Value.okWide Tryd.prog W .any base t v := hval0
  have hW' := hW
  obtain ⟨p, q, hA0, hV, rfl, hfz, hnd⟩ := hW
  have hA : DataW.TrodAll enc Tryd.prog W 0 (fun _ => true) true Tryd.f3.params.toList args.toList ds p := hA0
  rw [Tryd.params3] at hA hval
  obtain ⟨v0, vs0, d0, ds0, p0, q0, hargs, rfl, rfl, g0, r0⟩ := trodAll_cons hA
  obtain ⟨v1, vs1, d1, ds1, p1, q1, rfl, rfl, rfl, g1, r1⟩ := trodAll_cons r0
  obtain ⟨rfl, rfl, rfl⟩ := trodAll_nil r1
  obtain rfl : args = #[v0, v1] := by cases args; simp_all
  obtain ⟨rfl, rfl⟩ := trodVars_none hV
  have k0 := g0
  have lt0 : ∀ x ∈ p0, x.block < W.heap.size := by obtain ⟨m, hm⟩ := k0; exact DataW.trod_lt m _ _ _ hm
  have k1 := g1
  have lt1 : ∀ x ∈ p1, x.block < W.heap.size := by obtain ⟨m, hm⟩ := k1; exact DataW.trod_lt m _ _ _ hm
  obtain ⟨a0, len0, cap0, rfl⟩ := okWide_slice Tryd.underlying22 (hval 0 22 v0 rfl rfl)
  obtain ⟨z0, w0⟩ : ∃ zs, IsRow .u8 W a0 len0 cap0 zs := by
    obtain ⟨fuel, hf⟩ := g0
    exact isRow_in Tryd.underlying22 Tryd.underlying5 (by kernel_rfl) hf (by simp [Value.cells])
  obtain ⟨a1, len1, cap1, rfl⟩ := okWide_slice Tryd.underlying22 (hval 1 22 v1 rfl rfl)
  obtain ⟨z1, w1⟩ : ∃ zs, IsRow .u8 W a1 len1 cap1 zs := by
    obtain ⟨fuel, hf⟩ := g1
    exact isRow_in Tryd.underlying22 Tryd.underlying5 (by kernel_rfl) hf (by simp [Value.cells])
  clear hA0 hval0
  simp only [List.append_nil] at hW'
  have hg := hd_of_laid (laid := Rows.fnCodedRow.laid) rfl hL
  refine (walk a0 len0 cap0 z0 a1 len1 cap1 z1 W hg w0 w1).mono fun e W' ⟨he, bel⟩ => ?_
  subst he
  exact ⟨_, rfl, _, _, _, [], _, [], hW', trodAll_mk1 (shut_bool Tryd.underlying4 _), (trodAll_cons_mk (Below.trod laidOut (by kernel_rfl) (of_decide_eq_true (by kernel_rfl)) k0 bel lt0) (trodAll_cons_mk (Below.trod laidOut (by kernel_rfl) (of_decide_eq_true (by kernel_rfl)) k1 bel lt1) trodAll_mk0)), rfl, bel.frame _, fun h => by cases h⟩

theorem said : Rows.FnCodedSaid :=
  OpenClaim.holds_of_wide 3 Tryd.f3 rfl rfl rfl rfl rfl rfl rfl ⟨rfl, rfl, rfl, rfl, rfl⟩ rfl rfl rfl rfl rfl (by kernel_rfl) Tryd.func3 (by kernel_rfl)
    (of_decide_eq_true (by kernel_rfl)) (by unfold Func.isWrapper; first | (rw [if_pos (by decide +kernel)]; kernel_rfl) | (rw [if_neg (by decide +kernel)]; exact ⟨rfl, rfl⟩))
    (fun os started H enc _ => lifted os started H enc)

/-- No parameter wants a stand-in; the program's own looks are as told: what the card asks. -/
theorem plain (f : FuncId) (fn : Func) (hf : Tryd.pinned.checked.prog.funcNamed "loop.example/g01105/laws.FnCoded" = some f) (hfn : Tryd.pinned.checked.prog.funcs[f]? = some fn) :
    true = Tryd.pinned.checked.prog.looks [] ∧ ∀ (j : Nat) t, fn.params[j]? = some t → Tryd.pinned.checked.prog.wantsStandIn t = false := by
  obtain rfl : f = 3 := Option.some.inj ((show Tryd.prog.funcNamed "loop.example/g01105/laws.FnCoded" = some 3 by kernel_rfl).symm.trans hf) |>.symm
  obtain rfl : fn = Tryd.f3 := (Option.some.inj (Tryd.func3.symm.trans hfn)).symm
  refine ⟨by kernel_rfl, fun j t ht => ?_⟩
  rw [Tryd.params3] at ht
  have hm : t = 22 := by simpa using Array.mem_of_getElem? ht
  subst hm
  exact (show Tryd.prog.wantsStandIn 22 = false by kernel_rfl)

/-- The card. -/
theorem proved : Rows.FnCodedCardSaid :=
  Claim7.holds_tied_plain_at .later [] _ _ _ _ said (fun _ h => by cases h) (by kernel_rfl) (fun _ h => by cases h) fnCoded_row_tie rfl ⟨rfl, rfl⟩ (by kernel_rfl) rfl plain (by kernel_rfl)
#print axioms proved
end Go.Proofs.YtffkdidgfeknkaaDoor.fnCoded
