import Derived.Test.YtleenphlgbklmabGreatDoorXPSign
import Derived.Test.YtleenphlgbklmabGreatDoorXPDep
import Derived.Test.YtleenphlgbklmabGreatDoorXPTq
import Derived.Shelf.Lay
import Derived.Shelf.Strconv.Clone
import Derived.Ground.NamesProg
import Derived.Test.YtleenphlgbklmabGreatDoorXTree
import Derived.Test.YtleenphlgbklmabGreatDoorXPKq
set_option linter.unusedVariables false
set_option linter.unusedSimpArgs false
namespace Go.Proofs.YtleenphlgbklmabGreatDoor
open Go.RowKit

theorem BW.c2 {H : TypeId} {w : World} {B b : Nat} {x : Value} {bs : List Value} (h : BW H w B b x bs) : w.cell? ⟨b, 2, none⟩ = some x ∧ w.frozen? ⟨b, 2, none⟩ = false := by
  obtain ⟨hB, p, v, _, hbk, _⟩ := h
  exact ⟨by simp [World.cell?, hbk], by simp [World.frozen?, hbk]⟩
theorem BW.setX {H : TypeId} {w : World} {B b : Nat} {x y : Value} {bs : List Value} (h : BW H w B b x bs) : BW H (w.setCell ⟨b, 2, none⟩ y) B b y bs ∧ KB B b w (w.setCell ⟨b, 2, none⟩ y) := by
  obtain ⟨hB, p, v, hp, hbk, hown, hne⟩ := h
  refine ⟨⟨hB, p, v, hp, by simp [World.setCell, hbk, Array.getElem?_modify], ownsRow_setCell_other hown hne _, hne⟩, (Kp.refl _ _).setCell _ _ (fun _ => hB), fun k cs e f hk _ hc => ?_⟩
  rw [← hc]
  simp only [World.setCell]
  rw [Array.getElem?_modify, if_neg (fun z => hk z.symm)]
theorem Tryz.neWrB : (182 : Nat) ≠ 5 := by decide
theorem sC_app (a b : ByteArray) : Lib.strCells (a ++ b) = Lib.strCells a ++ Lib.strCells b := by
  simp [Lib.strCells_eq, Lib.byteCells]
theorem sC_nil : Lib.strCells { data := #[] } = [] := by simp [Lib.strCells_eq, Lib.byteCells]
theorem sep_f (l t : ByteArray) : sep l t = if (sameS l { data := #[] } || sameS l { data := #[40] } || sameS t { data := #[41] } || sameS t { data := #[44] }) then { data := #[] } else { data := #[32] } := by
  unfold sep pre opn cls
  cases sameS l { data := #[] } <;> cases sameS l { data := #[40] } <;> cases sameS t { data := #[41] } <;> cases sameS t { data := #[44] } <;> rfl
set_option maxRecDepth 20000 in
set_option maxHeartbeats 1000000 in
theorem ptoks_any (B b g c : Nat) (ts : List ByteArray) (w : World) (last : ByteArray) (bs : List Value) (h : BW 182 w B b (.string last) bs) (hg : w.heap[g]? = some (.cells (ts.map Value.string).toArray 9 (0, 0))) (hlen : bs.length + (ts.map fun t => t.size + 1).sum ≤ 100000000) (hts : ts.length ≤ 1000000) :
    Calls Tryz.prog 112 #[.pointer (some ⟨b, 0, none⟩), .slice (some ⟨g, 0, none⟩) ts.length c] w fun e w' => e = .returned (.tuple #[]) ∧ BW 182 w' B b (.string (lst last ts)) (bs ++ Lib.strCells (em last ts)) ∧ KB B b w w' := by
  have hgb : g ≠ b := fun e => by
    obtain ⟨hB, p, v, _, hbk, _⟩ := h
    rw [e, hbk] at hg
    simp only [Option.some.injEq, Obj.cells.injEq] at hg
    exact absurd hg.2.1 (by decide)
  have h0 : BW 182 w B b (.string (lst last (ts.take 0))) (bs ++ Lib.strCells (em last (ts.take 0))) := by
    have e : Lib.strCells (em last (ts.take 0)) = [] := by simp [em, Lib.strCells_eq, Lib.byteCells]
    rw [e]
    simpa [lst] using h
  have HW : Hid _ := h0
  clear h0 h
  go_enter Tryz.func112, Tryz.ntmps112
  go_wp2
  go_loopw [8] (fun i wr => KB B b w wr ∧ ∃ q : Nat, q ≤ ts.length ∧ i = .int .i64 q ∧ BW 182 wr B b (.string (lst last (ts.take q))) (bs ++ Lib.strCells (em last (ts.take q)))) (fun i _ => ts.length - (intOf i).toNat)
  case atStart => exact ⟨KB.refl _ _ _, 0, Nat.zero_le _, rfl, HW.out⟩
  case round =>
    obtain ⟨hkr, q, hq, rfl, hW⟩ := hrel
    by_cases hlt : q < ts.length
    · have hgr := hkr.oth g _ _ _ hgb (by decide) hg
      have hc : wr.cell? ⟨g, q, none⟩ = some (.string ts[q]) := by simp [World.cell?, hgr, hlt]
      have e1 : ts.take (q + 1) = ts.take q ++ [ts[q]] := List.take_succ_eq_append_getElem hlt
      have hst : Hid (lst last (ts.take (q + 1)) = ts[q] ∧ em last (ts.take (q + 1)) = em last (ts.take q) ++ (sep (lst last (ts.take q)) ts[q] ++ ts[q])) := by
        show _ ∧ _
        rw [e1, lst_app, em_app, em_one]
        exact ⟨rfl, rfl⟩
      have hz := em_size (ts.take q) last
      have hz2 : ((ts.take q).map fun t => t.size + 1).sum + (ts[q].size + 1) ≤ (ts.map fun t => t.size + 1).sum := by
        have e2 : (ts.map fun t => t.size + 1).sum = ((ts.take (q + 1) ++ ts.drop (q + 1)).map fun t => t.size + 1).sum := by rw [List.take_append_drop]
        rw [e2, List.map_append, List.sum_append, e1, List.map_append, List.sum_append]
        simp
      clear hgr e1 hg HW
      generalize lst last (ts.take q) = l at *
      generalize em last (ts.take q) = m at *
      generalize ts[q] = t at *
      have hln : (bs ++ Lib.strCells m).length + t.size + 1 ≤ 100000000 := by
        rw [List.length_append, Lib.strCells_length]
        omega
      clear hz hz2
      obtain ⟨c2, f2⟩ := hW.c2
      have W1 : Hid _ := bws2_any 182 Tryz.liesWr Tryz.neWrB B b _ _ { data := #[32] } wr hW (by have : ({ data := #[32] } : ByteArray).size = 1 := rfl; omega)
      have W2 : Hid (∀ w1 bs1, BW 182 w1 B b (.string l) bs1 → bs1.length + t.size ≤ 100000000 → Calls Tryz.prog 85 #[.pointer (some ⟨b, 0, none⟩), .string t] w1 fun e w' => e = .returned (.tuple #[.int .i64 t.size, .nilIface]) ∧ BW 182 w' B b (.string l) (bs1 ++ Lib.strCells t) ∧ KB B b w1 w') := fun w1 bs1 h1 h2 => bws2_any 182 Tryz.liesWr Tryz.neWrB B b _ _ t w1 h1 (by omega)
      have HW : Hid _ := hW
      clear hW
      have D1 : (l.toList == []) = sameS l { data := #[] } := by rw [ByteArray.toList_eq]; rfl
      have D2 : (l.toList == [40]) = sameS l { data := #[40] } := by rw [ByteArray.toList_eq]; rfl
      have D3 : (t.toList == [41]) = sameS t { data := #[41] } := by rw [ByteArray.toList_eq]; rfl
      have D4 : (t.toList == [44]) = sameS t { data := #[44] } := by rw [ByteArray.toList_eq]; rfl
      have hsf := sep_f l t
      cases hcond : (sameS l { data := #[] } || sameS l { data := #[40] } || sameS t { data := #[41] } || sameS t { data := #[44] })
      · rw [hcond, if_neg (by simp)] at hsf
        simp only [Bool.or_eq_false_iff] at hcond
        obtain ⟨⟨⟨q1, q2⟩, q3⟩, q4⟩ := hcond
        rw [q1] at D1
        rw [q2] at D2
        rw [q3] at D3
        rw [q4] at D4
        rw [hsf] at hst
        clear hsf q1 q2 q3 q4
        go_wp2_with fail
        refine Calls.mono W1.out ?_
        rintro e w1 ⟨rfl, hW1, hk1⟩
        go_wp2_with fail
        refine Calls.mono (W2.out w1 _ hW1 (by rw [List.length_append, Lib.strCells_length (s := { data := #[32] })]; have : ({ data := #[32] } : ByteArray).size = 1 := rfl; omega)) ?_
        rintro e w2 ⟨rfl, hW2, hk2⟩
        obtain ⟨c22, f22⟩ := hW2.c2
        have hX := hW2.setX (y := .string t)
        clear hW1 hW2 W1 W2 c2 f2
        go_wp2
        refine ⟨⟨((hkr.trans hk1).trans hk2).trans hX.2, q + 1, by omega, by go_num, ?_⟩, by simp [intOf]; omega⟩
        rw [hst.out.1, hst.out.2, sC_app, sC_app, ← List.append_assoc, ← List.append_assoc]
        exact hX.1
      · rw [hcond, if_pos rfl] at hsf
        rw [hsf] at hst
        clear hsf W1
        cases q1 : sameS l { data := #[] } <;> cases q2 : sameS l { data := #[40] } <;> cases q3 : sameS t { data := #[41] } <;> cases q4 : sameS t { data := #[44] } <;> simp only [q1, q2, q3, q4, Bool.or_false, Bool.or_true, Bool.false_eq_true] at hcond
        all_goals
          rw [q1] at D1
          rw [q2] at D2
          rw [q3] at D3
          rw [q4] at D4
          clear q1 q2 q3 q4
          go_wp2_with fail
          refine Calls.mono (W2.out wr _ HW.out (by omega)) ?_
          rintro e w2 ⟨rfl, hW2, hk2⟩
          obtain ⟨c22, f22⟩ := hW2.c2
          have hX := hW2.setX (y := .string t)
          clear hW2 W2 c2 f2
          go_wp2
          refine ⟨⟨(hkr.trans hk2).trans hX.2, q + 1, by omega, by go_num, ?_⟩, by simp [intOf]; omega⟩
          rw [hst.out.1, hst.out.2, sC_app, sC_app, ← List.append_assoc, sC_nil, List.nil_append]
          exact hX.1
    · have hq2 : q = ts.length := by omega
      have hk : Hid (ts.take q = ts) := by show _ = _; rw [hq2, List.take_length]
      clear hg HW hq2
      go_wp2
      go_end0
      rw [hk.out] at hW
      exact ⟨rfl, hW, hkr⟩
end Go.Proofs.YtleenphlgbklmabGreatDoor

namespace Go.Proofs.YtleenphlgbklmabGreatDoor
open Go.RowKit

theorem Tryz.xNaNa (v : Value) (w : World) : (Instr.typeAssert (.iface 233 v) 107 233 true).run Tryz.prog w = .ok (.tuple #[v, .bool true]) w := by kernel_rfl
theorem Tryz.xNaNu (v : Value) (w : World) : (Instr.typeAssert (.iface 233 v) 107 259 true).run Tryz.prog w = .ok (.tuple #[.pointer none, .bool false]) w := by kernel_rfl
theorem Tryz.xNaFu (v : Value) (w : World) : (Instr.typeAssert (.iface 233 v) 107 240 true).run Tryz.prog w = .ok (.tuple #[.pointer none, .bool false]) w := by kernel_rfl
theorem Tryz.xNaIf (v : Value) (w : World) : (Instr.typeAssert (.iface 233 v) 107 244 true).run Tryz.prog w = .ok (.tuple #[.pointer none, .bool false]) w := by kernel_rfl
theorem Tryz.xNaLe (v : Value) (w : World) : (Instr.typeAssert (.iface 233 v) 107 247 true).run Tryz.prog w = .ok (.tuple #[.pointer none, .bool false]) w := by kernel_rfl
theorem Tryz.xNaRe (v : Value) (w : World) : (Instr.typeAssert (.iface 233 v) 107 250 true).run Tryz.prog w = .ok (.tuple #[.pointer none, .bool false]) w := by kernel_rfl
theorem Tryz.xNaPa (v : Value) (w : World) : (Instr.typeAssert (.iface 233 v) 107 255 true).run Tryz.prog w = .ok (.tuple #[.pointer none, .bool false]) w := by kernel_rfl
theorem Tryz.xNuNa (v : Value) (w : World) : (Instr.typeAssert (.iface 259 v) 107 233 true).run Tryz.prog w = .ok (.tuple #[.pointer none, .bool false]) w := by kernel_rfl
theorem Tryz.xNuNu (v : Value) (w : World) : (Instr.typeAssert (.iface 259 v) 107 259 true).run Tryz.prog w = .ok (.tuple #[v, .bool true]) w := by kernel_rfl
theorem Tryz.xNuFu (v : Value) (w : World) : (Instr.typeAssert (.iface 259 v) 107 240 true).run Tryz.prog w = .ok (.tuple #[.pointer none, .bool false]) w := by kernel_rfl
theorem Tryz.xNuIf (v : Value) (w : World) : (Instr.typeAssert (.iface 259 v) 107 244 true).run Tryz.prog w = .ok (.tuple #[.pointer none, .bool false]) w := by kernel_rfl
theorem Tryz.xNuLe (v : Value) (w : World) : (Instr.typeAssert (.iface 259 v) 107 247 true).run Tryz.prog w = .ok (.tuple #[.pointer none, .bool false]) w := by kernel_rfl
theorem Tryz.xNuRe (v : Value) (w : World) : (Instr.typeAssert (.iface 259 v) 107 250 true).run Tryz.prog w = .ok (.tuple #[.pointer none, .bool false]) w := by kernel_rfl
theorem Tryz.xNuAp (v : Value) (w : World) : (Instr.typeAssert (.iface 259 v) 107 252 true).run Tryz.prog w = .ok (.tuple #[.pointer none, .bool false]) w := by kernel_rfl
theorem Tryz.xNuPa (v : Value) (w : World) : (Instr.typeAssert (.iface 259 v) 107 255 true).run Tryz.prog w = .ok (.tuple #[.pointer none, .bool false]) w := by kernel_rfl
theorem Tryz.xFuNa (v : Value) (w : World) : (Instr.typeAssert (.iface 240 v) 107 233 true).run Tryz.prog w = .ok (.tuple #[.pointer none, .bool false]) w := by kernel_rfl
theorem Tryz.xFuNu (v : Value) (w : World) : (Instr.typeAssert (.iface 240 v) 107 259 true).run Tryz.prog w = .ok (.tuple #[.pointer none, .bool false]) w := by kernel_rfl
theorem Tryz.xFuFu (v : Value) (w : World) : (Instr.typeAssert (.iface 240 v) 107 240 true).run Tryz.prog w = .ok (.tuple #[v, .bool true]) w := by kernel_rfl
theorem Tryz.xFuIf (v : Value) (w : World) : (Instr.typeAssert (.iface 240 v) 107 244 true).run Tryz.prog w = .ok (.tuple #[.pointer none, .bool false]) w := by kernel_rfl
theorem Tryz.xFuLe (v : Value) (w : World) : (Instr.typeAssert (.iface 240 v) 107 247 true).run Tryz.prog w = .ok (.tuple #[.pointer none, .bool false]) w := by kernel_rfl
theorem Tryz.xFuRe (v : Value) (w : World) : (Instr.typeAssert (.iface 240 v) 107 250 true).run Tryz.prog w = .ok (.tuple #[.pointer none, .bool false]) w := by kernel_rfl
theorem Tryz.xFuPa (v : Value) (w : World) : (Instr.typeAssert (.iface 240 v) 107 255 true).run Tryz.prog w = .ok (.tuple #[.pointer none, .bool false]) w := by kernel_rfl
theorem Tryz.xIfNa (v : Value) (w : World) : (Instr.typeAssert (.iface 244 v) 107 233 true).run Tryz.prog w = .ok (.tuple #[.pointer none, .bool false]) w := by kernel_rfl
theorem Tryz.xIfNu (v : Value) (w : World) : (Instr.typeAssert (.iface 244 v) 107 259 true).run Tryz.prog w = .ok (.tuple #[.pointer none, .bool false]) w := by kernel_rfl
theorem Tryz.xIfFu (v : Value) (w : World) : (Instr.typeAssert (.iface 244 v) 107 240 true).run Tryz.prog w = .ok (.tuple #[.pointer none, .bool false]) w := by kernel_rfl
theorem Tryz.xIfIf (v : Value) (w : World) : (Instr.typeAssert (.iface 244 v) 107 244 true).run Tryz.prog w = .ok (.tuple #[v, .bool true]) w := by kernel_rfl
theorem Tryz.xIfLe (v : Value) (w : World) : (Instr.typeAssert (.iface 244 v) 107 247 true).run Tryz.prog w = .ok (.tuple #[.pointer none, .bool false]) w := by kernel_rfl
theorem Tryz.xIfRe (v : Value) (w : World) : (Instr.typeAssert (.iface 244 v) 107 250 true).run Tryz.prog w = .ok (.tuple #[.pointer none, .bool false]) w := by kernel_rfl
theorem Tryz.xIfPa (v : Value) (w : World) : (Instr.typeAssert (.iface 244 v) 107 255 true).run Tryz.prog w = .ok (.tuple #[.pointer none, .bool false]) w := by kernel_rfl
theorem Tryz.xLeNa (v : Value) (w : World) : (Instr.typeAssert (.iface 247 v) 107 233 true).run Tryz.prog w = .ok (.tuple #[.pointer none, .bool false]) w := by kernel_rfl
theorem Tryz.xLeNu (v : Value) (w : World) : (Instr.typeAssert (.iface 247 v) 107 259 true).run Tryz.prog w = .ok (.tuple #[.pointer none, .bool false]) w := by kernel_rfl
theorem Tryz.xLeFu (v : Value) (w : World) : (Instr.typeAssert (.iface 247 v) 107 240 true).run Tryz.prog w = .ok (.tuple #[.pointer none, .bool false]) w := by kernel_rfl
theorem Tryz.xLeIf (v : Value) (w : World) : (Instr.typeAssert (.iface 247 v) 107 244 true).run Tryz.prog w = .ok (.tuple #[.pointer none, .bool false]) w := by kernel_rfl
theorem Tryz.xLeLe (v : Value) (w : World) : (Instr.typeAssert (.iface 247 v) 107 247 true).run Tryz.prog w = .ok (.tuple #[v, .bool true]) w := by kernel_rfl
theorem Tryz.xLeRe (v : Value) (w : World) : (Instr.typeAssert (.iface 247 v) 107 250 true).run Tryz.prog w = .ok (.tuple #[.pointer none, .bool false]) w := by kernel_rfl
theorem Tryz.xLePa (v : Value) (w : World) : (Instr.typeAssert (.iface 247 v) 107 255 true).run Tryz.prog w = .ok (.tuple #[.pointer none, .bool false]) w := by kernel_rfl
theorem Tryz.xReNa (v : Value) (w : World) : (Instr.typeAssert (.iface 250 v) 107 233 true).run Tryz.prog w = .ok (.tuple #[.pointer none, .bool false]) w := by kernel_rfl
theorem Tryz.xReNu (v : Value) (w : World) : (Instr.typeAssert (.iface 250 v) 107 259 true).run Tryz.prog w = .ok (.tuple #[.pointer none, .bool false]) w := by kernel_rfl
theorem Tryz.xReFu (v : Value) (w : World) : (Instr.typeAssert (.iface 250 v) 107 240 true).run Tryz.prog w = .ok (.tuple #[.pointer none, .bool false]) w := by kernel_rfl
theorem Tryz.xReIf (v : Value) (w : World) : (Instr.typeAssert (.iface 250 v) 107 244 true).run Tryz.prog w = .ok (.tuple #[.pointer none, .bool false]) w := by kernel_rfl
theorem Tryz.xReLe (v : Value) (w : World) : (Instr.typeAssert (.iface 250 v) 107 247 true).run Tryz.prog w = .ok (.tuple #[.pointer none, .bool false]) w := by kernel_rfl
theorem Tryz.xReRe (v : Value) (w : World) : (Instr.typeAssert (.iface 250 v) 107 250 true).run Tryz.prog w = .ok (.tuple #[v, .bool true]) w := by kernel_rfl
theorem Tryz.xRePa (v : Value) (w : World) : (Instr.typeAssert (.iface 250 v) 107 255 true).run Tryz.prog w = .ok (.tuple #[.pointer none, .bool false]) w := by kernel_rfl
theorem Tryz.xApNa (v : Value) (w : World) : (Instr.typeAssert (.iface 252 v) 107 233 true).run Tryz.prog w = .ok (.tuple #[.pointer none, .bool false]) w := by kernel_rfl
theorem Tryz.xApNu (v : Value) (w : World) : (Instr.typeAssert (.iface 252 v) 107 259 true).run Tryz.prog w = .ok (.tuple #[.pointer none, .bool false]) w := by kernel_rfl
theorem Tryz.xApFu (v : Value) (w : World) : (Instr.typeAssert (.iface 252 v) 107 240 true).run Tryz.prog w = .ok (.tuple #[.pointer none, .bool false]) w := by kernel_rfl
theorem Tryz.xApIf (v : Value) (w : World) : (Instr.typeAssert (.iface 252 v) 107 244 true).run Tryz.prog w = .ok (.tuple #[.pointer none, .bool false]) w := by kernel_rfl
theorem Tryz.xApLe (v : Value) (w : World) : (Instr.typeAssert (.iface 252 v) 107 247 true).run Tryz.prog w = .ok (.tuple #[.pointer none, .bool false]) w := by kernel_rfl
theorem Tryz.xApRe (v : Value) (w : World) : (Instr.typeAssert (.iface 252 v) 107 250 true).run Tryz.prog w = .ok (.tuple #[.pointer none, .bool false]) w := by kernel_rfl
theorem Tryz.xApAp (v : Value) (w : World) : (Instr.typeAssert (.iface 252 v) 107 252 true).run Tryz.prog w = .ok (.tuple #[v, .bool true]) w := by kernel_rfl
theorem Tryz.xApPa (v : Value) (w : World) : (Instr.typeAssert (.iface 252 v) 107 255 true).run Tryz.prog w = .ok (.tuple #[.pointer none, .bool false]) w := by kernel_rfl
theorem Tryz.xPaNa (v : Value) (w : World) : (Instr.typeAssert (.iface 255 v) 107 233 true).run Tryz.prog w = .ok (.tuple #[.pointer none, .bool false]) w := by kernel_rfl
theorem Tryz.xPaNu (v : Value) (w : World) : (Instr.typeAssert (.iface 255 v) 107 259 true).run Tryz.prog w = .ok (.tuple #[.pointer none, .bool false]) w := by kernel_rfl
theorem Tryz.xPaFu (v : Value) (w : World) : (Instr.typeAssert (.iface 255 v) 107 240 true).run Tryz.prog w = .ok (.tuple #[.pointer none, .bool false]) w := by kernel_rfl
theorem Tryz.xPaIf (v : Value) (w : World) : (Instr.typeAssert (.iface 255 v) 107 244 true).run Tryz.prog w = .ok (.tuple #[.pointer none, .bool false]) w := by kernel_rfl
theorem Tryz.xPaLe (v : Value) (w : World) : (Instr.typeAssert (.iface 255 v) 107 247 true).run Tryz.prog w = .ok (.tuple #[.pointer none, .bool false]) w := by kernel_rfl
theorem Tryz.xPaRe (v : Value) (w : World) : (Instr.typeAssert (.iface 255 v) 107 250 true).run Tryz.prog w = .ok (.tuple #[.pointer none, .bool false]) w := by kernel_rfl
theorem Tryz.xPaAp (v : Value) (w : World) : (Instr.typeAssert (.iface 255 v) 107 252 true).run Tryz.prog w = .ok (.tuple #[.pointer none, .bool false]) w := by kernel_rfl
theorem Tryz.xPaPa (v : Value) (w : World) : (Instr.typeAssert (.iface 255 v) 107 255 true).run Tryz.prog w = .ok (.tuple #[v, .bool true]) w := by kernel_rfl
theorem KB.xk {B b : Nat} {w w' : World} {x : Value} {bs : List Value} (h : KB B b w w') (hW : BW 182 w B b x bs) : XKeep w w' := fun k cs e f he hk => by
  refine h.oth k cs e f (fun z => ?_) (fun z => ?_) hk
  · obtain ⟨_, p, v, _, hbk, _⟩ := hW
    rw [z, hbk] at hk
    simp only [Option.some.injEq, Obj.cells.injEq] at hk
    rw [← hk.2.1] at he
    exact absurd he (by decide)
  · rw [z] at he
    exact absurd he (by decide)
theorem BW.alloc {H : TypeId} {w : World} {B b : Nat} {x : Value} {bs : List Value} (h : BW H w B b x bs) (o : Obj) : BW H (w.alloc o) B b x bs := by
  have k := (Kp.refl (fun _ => False) w).alloc o
  obtain ⟨hB, p, v, hp, hbk, hown, hne⟩ := h
  exact ⟨hB, p, v, hp, k.blk hbk (fun z => z), row_same (P := fun _ => True) (fun b _ hb => k.block b hb (fun z => z)) (fun _ _ => trivial) hown, hne⟩
/-- tokens, as a call lays them. -/
theorem wtok {B b : Nat} {w : World} {last : ByteArray} {bs : List Value} (h : BW 182 w B b (.string last) bs) (ts : List ByteArray) (hlen : bs.length + (ts.map fun t => t.size + 1).sum ≤ 100000000) (hts : ts.length ≤ 1000000) :
    Calls Tryz.prog 112 #[.pointer (some ⟨b, 0, none⟩), .slice (some ⟨w.heap.size, 0, none⟩) ts.length ts.length] (w.alloc (.cells (ts.map Value.string).toArray 9)) fun e w' => e = .returned (.tuple #[]) ∧ BW 182 w' B b (.string (lst last ts)) (bs ++ Lib.strCells (em last ts)) ∧ KB B b w w' := by
  refine (ptoks_any B b w.heap.size ts.length ts _ last bs (h.alloc _) (heap_alloc_new _ _) hlen hts).mono ?_
  rintro e w' ⟨h1, h2, h3⟩
  exact ⟨h1, h2, (KB.alloc B b w _).trans h3⟩
/-- exp writes an expression's text. -/
def SWX (x : X) : Prop := ∀ (v : Value) (w : World) (P : Nat → Prop) (B b : Nat) (last : ByteArray) (bs : List Value), PX w P x v → BW 182 w B b (.string last) bs → bs.length + tw x + 1 ≤ 10000000 →
  Calls Tryz.prog 76 #[.pointer (some ⟨b, 0, none⟩), v] w fun e w' => e = .returned (.tuple #[]) ∧ ∃ last', opn last' = false ∧ BW 182 w' B b (.string last') (bs ++ Lib.strCells (pre last ++ txt x)) ∧ KB B b w w'
end Go.Proofs.YtleenphlgbklmabGreatDoor

namespace Go.Proofs.YtleenphlgbklmabGreatDoor
open Go.RowKit

set_option maxRecDepth 20000 in
set_option maxHeartbeats 2000000 in
theorem k_num {ω : Type} {A : Nat → Addr} {B : Nat} {K : World → ω → Prop} (hK : KOk K) {fl : Int} {wv : Value} {w : World} {ad : List Nat} {σ : St} {own : List Bd} {gv : Gv} {p : Option Addr} {gm eb : Nat} {o : ω} (hT : TI A B K w ad σ own gv p gm o) :
    Calls Tryz.prog 106 #[.agg #[.int .i64 fl, wv], .iface 259 (.pointer (some ⟨eb, 0, none⟩)), .agg #[.pointer p, .map (some gm)]] w fun e w' => TyO A B K ad w e w' o (.ok (.int, σ)) := by
  have q0 := fun W => Tryz.xNuNa (.pointer (some ⟨eb, 0, none⟩)) W
  have q1 := fun W => Tryz.xNuFu (.pointer (some ⟨eb, 0, none⟩)) W
  have q2 := fun W => Tryz.xNuIf (.pointer (some ⟨eb, 0, none⟩)) W
  have q3 := fun W => Tryz.xNuLe (.pointer (some ⟨eb, 0, none⟩)) W
  have q4 := fun W => Tryz.xNuAp (.pointer (some ⟨eb, 0, none⟩)) W
  have q5 := fun W => Tryz.xNuPa (.pointer (some ⟨eb, 0, none⟩)) W
  have q6 := fun W => Tryz.xNuRe (.pointer (some ⟨eb, 0, none⟩)) W
  have hk : Kept w ((w.alloc (.cells #[.int .i64 fl, wv] 103)).alloc (.cells #[.pointer p, .map (some gm)] 168)) := (Kept.alloc _ _).trans (Kept.alloc _ _)
  have HF : Hid (TyO A B K ad w (.returned (.iface 271 (.agg #[.string { data := #[105, 110, 116] }]))) ((w.alloc (.cells #[.int .i64 fl, wv] 103)).alloc (.cells #[.pointer p, .map (some gm)] 168)) o (.ok (.int, σ))) := ⟨_, ad, rfl, rfl, hT.sx.kept hk, hT.ws, hK _ _ [] _ hT.k (Kt.of_kept hk), Gk.ofKt (Kt.of_kept hk)⟩
  clear hT hk
  go_enter Tryz.func106, Tryz.ntmps106
  go_wp2
  go_ret
  exact HF.out
end Go.Proofs.YtleenphlgbklmabGreatDoor

namespace Go.Proofs.YtleenphlgbklmabGreatDoor
open Go.RowKit

shelf_lay LaysM.n316 Nm 316 at Tryz as Tryz.laysM316
set_option maxRecDepth 20000 in
theorem sclone_any (s : ByteArray) (w : World) (hs : s.size ≤ 1000000) : Calls Tryz.prog 89 #[.string s] w fun e w' => e = .returned (.string s) ∧ Below w.heap.size w w' := by
  have HC : Hid (Calls Tryz.prog 130 #[.string s] w fun e w' => e = .returned (.string s) ∧ Below w.heap.size w w') := Any.stringslite_Clone Tryz.laysM316 s w (by omega)
  go_enter Tryz.func89, Tryz.ntmps89
  go_wp2_with fail
  refine Calls.mono HC.out ?_
  rintro e w1 ⟨rfl, hb⟩
  go_wp2
  go_ret
  exact ⟨rfl, hb⟩
end Go.Proofs.YtleenphlgbklmabGreatDoor

namespace Go.Proofs.YtleenphlgbklmabGreatDoor
open Go.RowKit

set_option maxRecDepth 20000 in
set_option maxHeartbeats 1000000 in
theorem bind_old (w : World) (mb : Nat) (kv : List (ByteArray × ByteArray)) (nm x : ByteArray) (h : SM w mb kv) (j : Nat) (hj : kv.findIdx? (fun y => sameS y.1 nm) = some j) :
    Calls Tryz.prog 65 #[.map (some mb), .string nm, .string x] w fun e w' => e = .returned (.bool (sameS (kAt kv j).2 x)) ∧ Kp (fun _ => False) w w' := by
  have hl := run_tlook 99 Tryz.underlying99 w mb kv nm h
  rw [hj] at hl
  simp only at hl
  have hk1 : Kp (fun _ => False) w (w.alloc (.cells #[.string (kAt kv j).2] 68)) := (Kp.refl _ w).alloc _
  have HK : Hid _ := hk1
  clear h hj hk1
  go_enter Tryz.func65, Tryz.ntmps65
  go_wp2
  go_ret
  exact ⟨by simp [sameS, ByteArray.toList_eq], HK.out⟩
set_option maxRecDepth 20000 in
set_option maxHeartbeats 1000000 in
theorem bind_new (w : World) (mb : Nat) (kv : List (ByteArray × ByteArray)) (nm x : ByteArray) (h : SM w mb kv) (hj : kv.findIdx? (fun y => sameS y.1 nm) = none) (hs : nm.size ≤ 1000000) :
    Calls Tryz.prog 65 #[.map (some mb), .string nm, .string x] w fun e w' => e = .returned (.bool true) ∧ SM w' mb (kv ++ [(nm, x)]) ∧ Kp (· = mb) w w' := by
  have hl := run_tlook 99 Tryz.underlying99 w mb kv nm h
  rw [hj] at hl
  simp only at hl
  have HJ : Hid _ := hj
  have HS : Hid _ := h
  have HC : Hid (∀ w, Calls Tryz.prog 89 #[.string nm] w fun e w' => e = .returned (.string nm) ∧ Below w.heap.size w w') := fun w => sclone_any nm w hs
  clear h hj
  go_enter Tryz.func65, Tryz.ntmps65
  go_wp2_with fail
  refine Calls.mono (HC.out _) ?_
  rintro e w1 ⟨rfl, hb⟩
  have hk1 : Kp (fun _ => False) w w1 := by
    have hkA : Kp (fun _ => False) w (w.alloc (.cells #[.string { data := #[] }] 68)) := (Kp.refl _ w).alloc _
    exact ⟨hb.os.trans hkA.os, hb.tape.trans hkA.tape, hb.output.trans hkA.output, Nat.le_trans hkA.size hb.size, fun q hq z => (hb.block q (Nat.lt_of_lt_of_le hq hkA.size)).trans (hkA.block q hq z)⟩
  have hS1 := HS.out.kp hk1 (fun z => z)
  have hu := run_tput 99 Tryz.underlying99 w1 mb kv nm x hS1 HJ.out
  have HP : Hid _ := hS1.put nm x HJ.out
  have HK : Hid (Kp (· = mb) w (mapSet w1 mb (.map (tEs (kv ++ [(nm, x)])) (kv.length + 1)))) := (hk1.mono (fun _ _ z => z.elim)).trans (mapSet_kp _ _ _)
  clear hS1 hk1 hb HC HS HJ hl
  go_wp2
  go_ret
  exact ⟨rfl, HP.out, HK.out⟩
end Go.Proofs.YtleenphlgbklmabGreatDoor

namespace Go.Proofs.YtleenphlgbklmabGreatDoor
open Go.RowKit

/-- how checkNames ends. -/
def ChO (w : World) (r : Option (Nat × ByteArray)) (e : Ending) (w' : World) : Prop := Kept w w' ∧ match r with
  | none => e = .returned (.tuple #[])
  | some q => ∃ b, e = thrown (.iface 84 (.pointer (some ⟨b, 0, none⟩))) ∧ w'.heap[b]? = some (.cells #[.int .i64 q.1, .string q.2] 97 (0, 0))
theorem ChO.split {w w' : World} {r : Option (Nat × ByteArray)} {e : Ending} (h : ChO w r e w') : (∃ q b, r = some q ∧ e = thrown (.iface 84 (.pointer (some ⟨b, 0, none⟩))) ∧ ChO w r (thrown (.iface 84 (.pointer (some ⟨b, 0, none⟩)))) w') ∨ (r = none ∧ e = .returned (.tuple #[]) ∧ Kept w w') := by
  cases r with
  | some q =>
    obtain ⟨h1, b, rfl, h2⟩ := h
    exact .inl ⟨q, b, rfl, rfl, h1, b, rfl, h2⟩
  | none =>
    obtain ⟨h1, rfl⟩ := h
    exact .inr ⟨rfl, rfl, h1⟩
structure CI (w : World) (ad : List Nat) (own : List Bd) (gv : Gv) (p : Option Addr) (gm : Nat) : Prop where
  ch : CH w (fun _ _ => True) own (.pointer p)
  gm : GM w gm ad gv
theorem CI.kept {w w' : World} {ad : List Nat} {own : List Bd} {gv : Gv} {p : Option Addr} {gm : Nat} (h : CI w ad own gv p gm) (k : Kept w w') : CI w' ad own gv p gm := ⟨h.ch.keep (fun _ _ _ hq => k.blk hq), h.gm.kt (Kt.of_kept (ad := ad) (S := fun _ => False) k) id⟩
section
variable {V V' : World} {b2 eb : Nat} {p : Option Addr} {gm : Nat} {cs : Array Value} {et : TypeId}
end
end Go.Proofs.YtleenphlgbklmabGreatDoor
