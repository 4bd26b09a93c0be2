import Derived.Deep.RegionHeld3
import Derived.Deep.DeepCutAuto
import Derived.Deep.LoopGhost
import Derived.Test.YtleenphlgbklmabGreatDoorWPSc
import Derived.Test.YtleenphlgbklmabGreatDoorWPCk
import Derived.Test.YtleenphlgbklmabGreatDoorWPKq
import Derived.Test.YtleenphlgbklmabGreatDoorWPStk
import Derived.Test.YtleenphlgbklmabGreatDoorWTGood
import Derived.Test.YtleenphlgbklmabGreatDoorWWCanon
import Derived.Test.YtleenphlgbklmabGreatDoorWPIter
import Derived.Test.YtleenphlgbklmabGreatDoorWPSign
set_option linter.unusedVariables false
set_option linter.unusedSimpArgs false
namespace Go.Proofs.YtleenphlgbklmabGreatDoor
open Go.RowKit
open Go.Sort

theorem leB_trans (a b c : List UInt8) (h1 : decide (a ≤ b) = true) (h2 : decide (b ≤ c) = true) : decide (a ≤ c) = true := by
  simp only [decide_eq_true_eq] at *
  exact List.le_trans h1 h2
theorem leB_total (a b : List UInt8) : (decide (a ≤ b) || decide (b ≤ a)) = true := by
  simp only [Bool.or_eq_true, decide_eq_true_eq]
  exact List.le_total a b
theorem sorted_some {w : World} {mb : Nat} {kv : List (ByteArray × ByteArray)} (h : SM w mb kv) (hl : kv.length ≤ 1000) (hs : ∀ y, y ∈ kv → y.1.size ≤ maxLen) :
    Calls Tryz.prog 24 #[.func (.func 44) #[] #[.pointer (some ⟨w.heap.size, 0, none⟩)]] (w.alloc (.cells #[.map (some mb)] 60)) fun e w' => ∃ (v : Value) (sk : List (List UInt8)), e = .returned v ∧ sk.Perm (kv.map fun y => y.1.data.toList) ∧ sk.Pairwise (fun x y => decide (x ≤ y) = true) ∧ w'.ownsRow 0 9 1 v sk.length (sk.map encStr) ∧ Kept (w.alloc (.cells #[.map (some mb)] 60)) w' := by
  obtain ⟨D0, h1, h2, h3⟩ := h.owns hl hs
  refine (callsIn_wide.1 (Tryz.sortedKeysT mb kv.length D0 _ w h1 (by unfold maxLen; omega) (by omega))).mono ?_
  rintro e w' ⟨v, ss, rfl, hS, hrow, hnil, hb⟩
  refine ⟨v, ss.mergeSort (fun x y => decide (x ≤ y)), rfl, ((List.mergeSort_perm ss _).trans hS).trans h2, List.pairwise_mergeSort leB_trans leB_total ss, ?_, ⟨hb.os, hb.output, hb.size, hb.block⟩⟩
  rw [List.length_mergeSort]
  refine ⟨hrow.1, ?_⟩
  rcases hrow.2 with q | ⟨g, cap, cur, e1, _, rest⟩
  · exact .inl q
  · exact .inr ⟨g, cap, cur, e1, Nat.zero_le _, rest⟩
theorem Tryz.fldT (y : ByteArray) (w : World) : (Instr.field 68 (.agg #[.string y]) 0).run Tryz.prog w = .ok (.string y) w := by kernel_rfl
end Go.Proofs.YtleenphlgbklmabGreatDoor

namespace Go.Proofs.YtleenphlgbklmabGreatDoor
open Go.RowKit

theorem kinds_same : kkinds = tyWords := rfl
end Go.Proofs.YtleenphlgbklmabGreatDoor

namespace Go.Proofs.YtleenphlgbklmabGreatDoor
open Go.RowKit

/-- what a text is as a type: none, by a fault; or one, with its names. -/
inductive RdO where
  | bad (what loc : Int) | good (t : Ty) (names : List ByteArray)
end Go.Proofs.YtleenphlgbklmabGreatDoor

namespace Go.Proofs.YtleenphlgbklmabGreatDoor
open Go.RowKit

/-- what a text is as a type. -/
def rdO (s : ByteArray) : RdO :=
  if 300 < s.size then .bad 1 0
  else match arrowM (lexT s) (2 * (lexT s).length + 2) [] 0 (-1) with
    | none => .bad 1 0
    | some (t, names, K, B) => if 0 ≤ needB (lexT s) { data := #[101, 110, 100] } K B then .bad 2 (needB (lexT s) { data := #[101, 110, 100] } K B) else if 120 < sz t then .bad 8 0 else .good t names
end Go.Proofs.YtleenphlgbklmabGreatDoor

namespace Go.Proofs.YtleenphlgbklmabGreatDoor
open Go.RowKit

theorem kwIn_words (t : ByteArray) : kwIn wordsL t = (sameS t { data := #[102, 117, 110] } || (sameS t { data := #[108, 101, 116] } || (sameS t { data := #[114, 101, 99] } || (sameS t { data := #[97, 110, 100] } || (sameS t { data := #[105, 110] } || (sameS t { data := #[105, 102] } || (sameS t { data := #[116, 104, 101, 110] } || sameS t { data := #[101, 108, 115, 101] }))))))) := by
  simp [kwIn, wordsL]
set_option maxRecDepth 20000 in
theorem pkw_any (t : ByteArray) (w : World) : Calls Tryz.prog 139 #[.string t] w fun e w' => e = .returned (.bool (kwIn wordsL t)) ∧ w' = w := by
  rw [kwIn_words]
  have e : ∀ q : ByteArray, sameS t q = (t.toList == q.data.toList) := fun q => by unfold sameS; rw [ByteArray.toList_eq]
  simp only [e]
  clear e
  go_enter Tryz.func139, Tryz.ntmps139
  go_wp2
  all_goals
    go_ret
    refine ⟨?_, rfl⟩
    simp_all
set_option maxRecDepth 20000 in
set_option maxHeartbeats 1000000 in
theorem pidx_any (names : List ByteArray) (x : ByteArray) (w : World) (nv : Value) (h : w.ownsRow 0 9 1 nv names.length (names.map Value.string)) :
    Calls Tryz.prog 184 #[nv, .string x] w fun e w' => (∃ r : Int, e = .returned (.int .i64 r) ∧ decide (0 ≤ r) = names.any (fun m => sameS m x)) ∧ w' = w := by
  have h' : w.ownsRow 0 9 1 nv (names.map Value.string).length (names.map Value.string) := by rw [List.length_map]; exact h
  obtain ⟨ao, cap, rfl, hrow⟩ := row_form h'
  have hml : names.length ≤ 9223372036854775807 := by
    rcases h.2 with ⟨e1, e2⟩ | ⟨g, c', cur, e1, _, _, e4, e5, _⟩
    · omega
    · unfold maxLen at e5; omega
  rw [List.length_map] at hrow ⊢
  clear h h'
  go_enter Tryz.func184, Tryz.ntmps184
  go_wp2
  go_loop [8] (fun i => ∃ q : Nat, q ≤ names.length ∧ i = .int .i64 q ∧ (names.take q).any (fun m => sameS m x) = false) (fun i => names.length - (intOf i).toNat)
  case atStart => exact ⟨0, Nat.zero_le _, rfl, by simp⟩
  case round =>
    obtain ⟨q, hq, rfl, hno⟩ := hrel
    by_cases hlt : q < names.length
    · obtain ⟨g, rfl, hc⟩ := hrow q hlt
      have hc2 : w.cell? ⟨g, q, none⟩ = some (.string names[q]) := by rw [hc]; simp [hlt]
      have hst : Hid ((names.take (q + 1)).any (fun m => sameS m x) = sameS names[q] x) := by
        show _ = _
        rw [List.take_succ_eq_append_getElem hlt, List.any_append, hno]
        simp
      have hmem : Hid (sameS names[q] x = true → names.any (fun m => sameS m x) = true) := fun e => List.any_eq_true.2 ⟨_, List.getElem_mem hlt, e⟩
      have hS : Hid (sameS names[q] x = (x.toList == (names[q]).toList)) := by
        show _ = _
        unfold sameS
        rw [ByteArray.toList_eq, ByteArray.toList_eq, Bool.beq_comm]
      clear hc hrow hno
      generalize names[q] = y at *
      cases hb : (x.toList == y.toList)
      · go_wp2
        go_round
        case rel => exact ⟨q + 1, by omega, by go_num, by rw [hst.out, hS.out, hb]⟩
        case measure => simp [intOf]; omega
      · go_wp2
        go_ret
        exact ⟨⟨q, rfl, by rw [hmem.out (by rw [hS.out, hb])]; simp⟩, rfl⟩
    · have hq2 : q = names.length := by omega
      have hk : Hid (names.any (fun m => sameS m x) = false) := by show _ = _; rw [hq2, List.take_length] at hno; exact hno
      clear hrow hno hq2
      go_wp2
      go_ret
      exact ⟨⟨-1, rfl, by rw [hk.out]; rfl⟩, rfl⟩
theorem pcon_any (names : List ByteArray) (x : ByteArray) (w : World) (nv : Value) (h : w.ownsRow 0 9 1 nv names.length (names.map Value.string)) :
    Calls Tryz.prog 168 #[nv, .string x] w fun e w' => e = .returned (.bool (names.any (fun m => sameS m x))) ∧ w' = w := by
  have H : Hid _ := pidx_any names x w nv h
  obtain ⟨ao, cap, rfl⟩ : ∃ ao cap, nv = .slice ao names.length cap := by
    rcases h.2 with ⟨e1, e2⟩ | ⟨g, cap, cur, e1, _⟩
    · exact ⟨none, 0, by rw [e1, e2]⟩
    · exact ⟨_, cap, e1⟩
  clear h
  go_enter Tryz.func168, Tryz.ntmps168
  go_wp2_with fail
  refine Calls.mono H.out ?_
  rintro e w' ⟨⟨r, rfl, hr⟩, hw⟩
  rw [hw]
  have HR : Hid _ := hr
  clear H hw hr
  go_wp2
  go_ret
  exact ⟨by rw [← HR.out]; rfl, rfl⟩
end Go.Proofs.YtleenphlgbklmabGreatDoor

namespace Go.Proofs.YtleenphlgbklmabGreatDoor
open Go.RowKit

def isNameF (t : ByteArray) : Bool := if t.size = 0 then false else if 8 < t.size then false else if lowI (chr t 0) then (if run lfI t 0 = t.size then !(kwIn wordsL t) else false) else false
theorem tl_empty (t : ByteArray) : (t.toList == []) = decide (t.size = 0) := by
  rw [ByteArray.toList_eq]
  have e : t.data.toList.length = t.size := by rw [Array.length_toList]; rfl
  cases h : t.data.toList with
  | nil =>
    rw [h] at e
    have : t.size = 0 := by simpa using e.symm
    rw [this]
    rfl
  | cons a l =>
    rw [h] at e
    have : ¬ t.size = 0 := by rw [← e]; simp
    rw [decide_eq_false this]
    rfl
set_option maxRecDepth 20000 in
set_option maxHeartbeats 1000000 in
theorem isname_any (t : ByteArray) (w : World) (ht : t.size ≤ 1000000) : Calls Tryz.prog 101 #[.string t] w fun e w' => e = .returned (.bool (isNameF t)) ∧ w' = w := by
  have he := tl_empty t
  unfold isNameF
  by_cases h0 : t.size = 0
  · simp only [h0, if_true]
    rw [h0] at he
    simp only [decide_true] at he
    go_enter Tryz.func101, Tryz.ntmps101
    go_wp2
    go_ret
    exact ⟨rfl, rfl⟩
  · simp only [h0, if_false]
    simp only [h0, decide_false] at he
    by_cases h8 : 8 < t.size
    · simp only [h8, if_true]
      have h9 : ¬ (t.size : Int) ≤ 8 := by omega
      go_enter Tryz.func101, Tryz.ntmps101
      go_wp2
      go_ret
      exact ⟨rfl, rfl⟩
    · simp only [h8, if_false]
      have h9 : (t.size : Int) ≤ 8 := by omega
      have HL : Hid _ := fun c => pletter_any c w
      have hp : 0 < t.size := by omega
      have hc : ((t[0]'hp).toNat : Int) = chr t 0 := by simp [chr, hp]
      have HD : Hid _ := lead_ld t (by omega) w
      have HW : Hid _ := pkw_any t w
      cases hl : lowI (chr t 0) with
      | false =>
        simp only [Bool.false_eq_true, if_false]
        go_enter Tryz.func101, Tryz.ntmps101
        go_wp2_with fail
        refine Calls.mono (HL.out _) ?_
        rintro e w' ⟨rfl, hww⟩
        rw [hww, hl]
        clear hww w' HL hc
        go_wp2
        go_ret
        exact ⟨rfl, rfl⟩
      | true =>
        simp only [if_true]
        by_cases hr : run lfI t 0 = t.size
        · simp only [hr, if_true]
          rw [hr] at HD
          go_enter Tryz.func101, Tryz.ntmps101
          go_wp2_with fail
          refine Calls.mono (HL.out _) ?_
          rintro e w' ⟨rfl, hww⟩
          rw [hww, hl]
          clear hww w' HL hc
          go_wp2_with fail
          refine Calls.mono HD.out ?_
          rintro e w' ⟨rfl, hww⟩
          rw [hww]
          clear hww w' HD
          go_wp2_with fail
          refine Calls.mono HW.out ?_
          rintro e w' ⟨rfl, hww⟩
          rw [hww]
          clear hww w' HW
          go_wp2
          go_ret
          exact ⟨rfl, rfl⟩
        · simp only [hr, if_false]
          have hr2 : ¬ ((run lfI t 0 : Nat) : Int) = (t.size : Int) := by omega
          go_enter Tryz.func101, Tryz.ntmps101
          go_wp2_with fail
          refine Calls.mono (HL.out _) ?_
          rintro e w' ⟨rfl, hww⟩
          rw [hww, hl]
          clear hww w' HL hc
          go_wp2_with fail
          refine Calls.mono HD.out ?_
          rintro e w' ⟨rfl, hww⟩
          rw [hww]
          clear hww w' HD
          go_wp2
          go_ret
          exact ⟨rfl, rfl⟩
end Go.Proofs.YtleenphlgbklmabGreatDoor
