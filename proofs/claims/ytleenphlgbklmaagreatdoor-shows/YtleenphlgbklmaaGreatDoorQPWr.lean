import Derived.Test.YtleenphlgbklmaaGreatDoorQPBldB
import Derived.Test.YtleenphlgbklmaaGreatDoorQPX
set_option linter.unusedVariables false
set_option linter.unusedSimpArgs false
namespace Go.Proofs.YtleenphlgbklmaaGreatDoor
open Go.RowKit

theorem BW.c2 {H : TypeId} {w : World} {B b : Nat} {x : Value} {bs : List Value} (h : BW H w B b x bs) : w.cell? ⟨b, 2, none⟩ = some x ∧ w.frozen? ⟨b, 2, none⟩ = false := by
  obtain ⟨hB, p, v, _, hbk, _⟩ := h
  exact ⟨by simp [World.cell?, hbk], by simp [World.frozen?, hbk]⟩
theorem BW.setX {H : TypeId} {w : World} {B b : Nat} {x y : Value} {bs : List Value} (h : BW H w B b x bs) : BW H (w.setCell ⟨b, 2, none⟩ y) B b y bs ∧ KB B b w (w.setCell ⟨b, 2, none⟩ y) := by
  obtain ⟨hB, p, v, hp, hbk, hown, hne⟩ := h
  refine ⟨⟨hB, p, v, hp, by simp [World.setCell, hbk, Array.getElem?_modify], ownsRow_setCell_other hown hne _, hne⟩, (Kp.refl _ _).setCell _ _ (fun _ => hB), fun k cs e f hk _ hc => ?_⟩
  rw [← hc]
  simp only [World.setCell]
  rw [Array.getElem?_modify, if_neg (fun z => hk z.symm)]
theorem Tryz.neWrB : (187 : Nat) ≠ 5 := by decide
theorem sC_app (a b : ByteArray) : Lib.strCells (a ++ b) = Lib.strCells a ++ Lib.strCells b := by
  simp [Lib.strCells_eq, Lib.byteCells]
theorem sC_nil : Lib.strCells { data := #[] } = [] := by simp [Lib.strCells_eq, Lib.byteCells]
theorem sep_f (l t : ByteArray) : sep l t = if (sameS l { data := #[] } || sameS l { data := #[40] } || sameS t { data := #[41] } || sameS t { data := #[44] }) then { data := #[] } else { data := #[32] } := by
  unfold sep pre opn cls
  cases sameS l { data := #[] } <;> cases sameS l { data := #[40] } <;> cases sameS t { data := #[41] } <;> cases sameS t { data := #[44] } <;> rfl
set_option maxRecDepth 20000 in
set_option maxHeartbeats 1000000 in
theorem ptoks_any (B b g c : Nat) (ts : List ByteArray) (w : World) (last : ByteArray) (bs : List Value) (h : BW 187 w B b (.string last) bs) (hg : w.heap[g]? = some (.cells (ts.map Value.string).toArray 9 (0, 0))) (hlen : bs.length + (ts.map fun t => t.size + 1).sum ≤ 100000000) (hts : ts.length ≤ 1000000) :
    Calls Tryz.prog 135 #[.pointer (some ⟨b, 0, none⟩), .slice (some ⟨g, 0, none⟩) ts.length c] w fun e w' => e = .returned (.tuple #[]) ∧ BW 187 w' B b (.string (lst last ts)) (bs ++ Lib.strCells (em last ts)) ∧ KB B b w w' := by
  have hgb : g ≠ b := fun e => by
    obtain ⟨hB, p, v, _, hbk, _⟩ := h
    rw [e, hbk] at hg
    simp only [Option.some.injEq, Obj.cells.injEq] at hg
    exact absurd hg.2.1 (by decide)
  have h0 : BW 187 w B b (.string (lst last (ts.take 0))) (bs ++ Lib.strCells (em last (ts.take 0))) := by
    have e : Lib.strCells (em last (ts.take 0)) = [] := by simp [em, Lib.strCells_eq, Lib.byteCells]
    rw [e]
    simpa [lst] using h
  have HW : Hid _ := h0
  clear h0 h
  go_enter Tryz.func135, Tryz.ntmps135
  go_wp2
  go_loopw [8] (fun i wr => KB B b w wr ∧ ∃ q : Nat, q ≤ ts.length ∧ i = .int .i64 q ∧ BW 187 wr B b (.string (lst last (ts.take q))) (bs ++ Lib.strCells (em last (ts.take q)))) (fun i _ => ts.length - (intOf i).toNat)
  case atStart => exact ⟨KB.refl _ _ _, 0, Nat.zero_le _, rfl, HW.out⟩
  case round =>
    obtain ⟨hkr, q, hq, rfl, hW⟩ := hrel
    by_cases hlt : q < ts.length
    · have hgr := hkr.oth g _ _ _ hgb (by decide) hg
      have hc : wr.cell? ⟨g, q, none⟩ = some (.string ts[q]) := by simp [World.cell?, hgr, hlt]
      have e1 : ts.take (q + 1) = ts.take q ++ [ts[q]] := List.take_succ_eq_append_getElem hlt
      have hst : Hid (lst last (ts.take (q + 1)) = ts[q] ∧ em last (ts.take (q + 1)) = em last (ts.take q) ++ (sep (lst last (ts.take q)) ts[q] ++ ts[q])) := by
        show _ ∧ _
        rw [e1, lst_app, em_app, em_one]
        exact ⟨rfl, rfl⟩
      have hz := em_size (ts.take q) last
      have hz2 : ((ts.take q).map fun t => t.size + 1).sum + (ts[q].size + 1) ≤ (ts.map fun t => t.size + 1).sum := by
        have e2 : (ts.map fun t => t.size + 1).sum = ((ts.take (q + 1) ++ ts.drop (q + 1)).map fun t => t.size + 1).sum := by rw [List.take_append_drop]
        rw [e2, List.map_append, List.sum_append, e1, List.map_append, List.sum_append]
        simp
      clear hgr e1 hg HW
      generalize lst last (ts.take q) = l at *
      generalize em last (ts.take q) = m at *
      generalize ts[q] = t at *
      have hln : (bs ++ Lib.strCells m).length + t.size + 1 ≤ 100000000 := by
        rw [List.length_append, Lib.strCells_length]
        omega
      clear hz hz2
      obtain ⟨c2, f2⟩ := hW.c2
      have W1 : Hid _ := bws2_any 187 Tryz.liesWr Tryz.neWrB B b _ _ { data := #[32] } wr hW (by have : ({ data := #[32] } : ByteArray).size = 1 := rfl; omega)
      have W2 : Hid (∀ w1 bs1, BW 187 w1 B b (.string l) bs1 → bs1.length + t.size ≤ 100000000 → Calls Tryz.prog 147 #[.pointer (some ⟨b, 0, none⟩), .string t] w1 fun e w' => e = .returned (.tuple #[.int .i64 t.size, .nilIface]) ∧ BW 187 w' B b (.string l) (bs1 ++ Lib.strCells t) ∧ KB B b w1 w') := fun w1 bs1 h1 h2 => bws2_any 187 Tryz.liesWr Tryz.neWrB B b _ _ t w1 h1 (by omega)
      have HW : Hid _ := hW
      clear hW
      have D1 : (l.toList == []) = sameS l { data := #[] } := by rw [ByteArray.toList_eq]; rfl
      have D2 : (l.toList == [40]) = sameS l { data := #[40] } := by rw [ByteArray.toList_eq]; rfl
      have D3 : (t.toList == [41]) = sameS t { data := #[41] } := by rw [ByteArray.toList_eq]; rfl
      have D4 : (t.toList == [44]) = sameS t { data := #[44] } := by rw [ByteArray.toList_eq]; rfl
      have hsf := sep_f l t
      cases hcond : (sameS l { data := #[] } || sameS l { data := #[40] } || sameS t { data := #[41] } || sameS t { data := #[44] })
      · rw [hcond, if_neg (by simp)] at hsf
        simp only [Bool.or_eq_false_iff] at hcond
        obtain ⟨⟨⟨q1, q2⟩, q3⟩, q4⟩ := hcond
        rw [q1] at D1
        rw [q2] at D2
        rw [q3] at D3
        rw [q4] at D4
        rw [hsf] at hst
        clear hsf q1 q2 q3 q4
        go_wp2_with fail
        refine Calls.mono W1.out ?_
        rintro e w1 ⟨rfl, hW1, hk1⟩
        go_wp2_with fail
        refine Calls.mono (W2.out w1 _ hW1 (by rw [List.length_append, Lib.strCells_length (s := { data := #[32] })]; have : ({ data := #[32] } : ByteArray).size = 1 := rfl; omega)) ?_
        rintro e w2 ⟨rfl, hW2, hk2⟩
        obtain ⟨c22, f22⟩ := hW2.c2
        have hX := hW2.setX (y := .string t)
        clear hW1 hW2 W1 W2 c2 f2
        go_wp2
        refine ⟨⟨((hkr.trans hk1).trans hk2).trans hX.2, q + 1, by omega, by go_num, ?_⟩, by simp [intOf]; omega⟩
        rw [hst.out.1, hst.out.2, sC_app, sC_app, ← List.append_assoc, ← List.append_assoc]
        exact hX.1
      · rw [hcond, if_pos rfl] at hsf
        rw [hsf] at hst
        clear hsf W1
        cases q1 : sameS l { data := #[] } <;> cases q2 : sameS l { data := #[40] } <;> cases q3 : sameS t { data := #[41] } <;> cases q4 : sameS t { data := #[44] } <;> simp only [q1, q2, q3, q4, Bool.or_false, Bool.or_true, Bool.false_eq_true] at hcond
        all_goals
          rw [q1] at D1
          rw [q2] at D2
          rw [q3] at D3
          rw [q4] at D4
          clear q1 q2 q3 q4
          go_wp2_with fail
          refine Calls.mono (W2.out wr _ HW.out (by omega)) ?_
          rintro e w2 ⟨rfl, hW2, hk2⟩
          obtain ⟨c22, f22⟩ := hW2.c2
          have hX := hW2.setX (y := .string t)
          clear hW2 W2 c2 f2
          go_wp2
          refine ⟨⟨(hkr.trans hk2).trans hX.2, q + 1, by omega, by go_num, ?_⟩, by simp [intOf]; omega⟩
          rw [hst.out.1, hst.out.2, sC_app, sC_app, ← List.append_assoc, sC_nil, List.nil_append]
          exact hX.1
    · have hq2 : q = ts.length := by omega
      have hk : Hid (ts.take q = ts) := by show _ = _; rw [hq2, List.take_length]
      clear hg HW hq2
      go_wp2
      go_end0
      rw [hk.out] at hW
      exact ⟨rfl, hW, hkr⟩
end Go.Proofs.YtleenphlgbklmaaGreatDoor
