import Derived.Test.YtleenphlgbklmabGreatDoorUMid
import Derived.Test.YtleenphlgbklmabGreatDoorUTyMirror
import Derived.Test.YtleenphlgbklmabGreatDoorUWExpC
import Derived.Test.YtleenphlgbklmabGreatDoorURefGood
set_option linter.unusedVariables false
set_option linter.unusedSimpArgs false
namespace Go.Proofs.YtleenphlgbklmabGreatDoor
open Go.RowKit

def kwords : List ByteArray := [{ data := #[102, 117, 110] }, { data := #[108, 101, 116] }, { data := #[114, 101, 99] }, { data := #[97, 110, 100] }, { data := #[105, 110] }, { data := #[105, 102] }, { data := #[116, 104, 101, 110] }, { data := #[101, 108, 115, 101] }]

theorem flat_get (l : List Tk) (i : Nat) (h : i < l.length) : (flat l)[i * 3]? = some (.string (tkAt l i).is) ∧ (flat l)[i * 3 + 1]? = some (.string (tkAt l i).s) ∧ (flat l)[i * 3 + 2]? = some (.int .i64 (tkAt l i).loc) := by
  induction l generalizing i with
  | nil => simp at h
  | cons t l ih =>
    cases i with
    | zero => simp [flat, tkCells, tkAt]
    | succ i =>
      have := ih i (by simpa using h)
      rw [tkAt_succ]
      have e : flat (t :: l) = tkCells t ++ flat l := by simp [flat]
      rw [e, show (i + 1) * 3 = i * 3 + 3 from by omega]
      simpa [tkCells] using this

theorem Kp.then {S T : Nat → Prop} {a b c : World} (h : Kp S a b) (k : Kp T b c) (hT : ∀ q, q < a.heap.size → T q → S q) : Kp S a c :=
  ⟨k.os.trans h.os, k.tape.trans h.tape, k.output.trans h.output, Nat.le_trans h.size k.size, fun q hq hs => (k.block q (Nat.lt_of_lt_of_le hq h.size) (fun e => hs (hT q hq e))).trans (h.block q hq hs)⟩

def setF (w : World) (fb : Nat) (v0 v1 v2 v3 v4 : Value) : World := ((((w.setCell ⟨fb, 0, none⟩ v0).setCell ⟨fb, 1, none⟩ v1).setCell ⟨fb, 2, none⟩ v2).setCell ⟨fb, 3, none⟩ v3).setCell ⟨fb, 4, none⟩ v4
theorem setF_blk {w : World} {fb : Nat} {a b c d e : Value} {t : TypeId} (h : w.heap[fb]? = some (.cells #[a, b, c, d, e] t (0, 0))) (v0 v1 v2 v3 v4 : Value) : (setF w fb v0 v1 v2 v3 v4).heap[fb]? = some (.cells #[v0, v1, v2, v3, v4] t (0, 0)) := by
  simp [setF, World.setCell, h, Array.getElem?_modify]
theorem setF_kp (w : World) (fb : Nat) (v0 v1 v2 v3 v4 : Value) : Kp (· = fb) w (setF w fb v0 v1 v2 v3 v4) :=
  (((((Kp.refl (· = fb) w).setCell _ _ (fun _ => rfl)).setCell _ _ (fun _ => rfl)).setCell _ _ (fun _ => rfl)).setCell _ _ (fun _ => rfl)).setCell _ _ (fun _ => rfl)

def faultV (what at_ : Int) : Value := .agg #[.int .i64 what, .int .i64 at_, .string { data := #[] }, .int .i64 0, .int .i64 0]

/-- the document's tokens of a text, its reading: the expression, the place behind it, the fault. -/
def lexR (s : ByteArray) : List Tk := toksF s kwords (s.size + 1) 0

end Go.Proofs.YtleenphlgbklmabGreatDoor
