import Derived.Test.YtleenphlgbklmabGreatDoorUGrow
import Derived.Test.YtleenphlgbklmabGreatDoorUTyMirror
import Derived.Deep.DeepCutAuto
import Derived.Deep.LoopGhost
import Derived.Deep.CutBlock
import Derived.Lib.SlBytesConst
import Derived.Laws.DeepStrings4
import Derived.Deep.RegionHeld3
set_option linter.unusedVariables false
set_option linter.unusedSimpArgs false
namespace Go.Proofs.YtleenphlgbklmabGreatDoor
open Go.RowKit

def tkCells (t : Tk) : List Value := [.string t.is, .string t.s, .int .i64 t.loc]
def flat (l : List Tk) : List Value := l.flatMap tkCells
theorem flat_len (l : List Tk) : (flat l).length = l.length * 3 := by
  induction l with
  | nil => rfl
  | cons t l ih => simp only [flat, List.flatMap_cons, List.length_append, List.length_cons] at *; rw [ih]; simp [tkCells]; omega
theorem ret_slice {a : Option Addr} {n n' c : Nat} (h : n = n') : Ending.returned (.slice a n c) = .returned (.slice a n' c) := by rw [h]
theorem clsK_bounds (s : ByteArray) (i : Nat) (h : i ≤ s.size) : i ≤ clsK s i ∧ clsK s i ≤ s.size := by
  unfold clsK
  split
  · split
    · exact ⟨run_ge _ _ _, run_le _ _ _ h⟩
    · split
      · exact ⟨run_ge _ _ _, run_le _ _ _ h⟩
      · split
        · rename_i hh; omega
        · split <;> omega
  · omega

/-- the block of that number, in a piece of code. -/
def findBlock (n : Nat) : Code → Option Code
  | .block m c => if m = n then some (.block m c) else findBlock n c
  | .loop c => findBlock n c
  | .seq a b => match findBlock n a with
    | some c => some c
    | none => findBlock n b
  | .scope c => findBlock n c
  | .cond _ a b => match findBlock n a with
    | some c => some c
    | none => findBlock n b
  | _ => none
end Go.Proofs.YtleenphlgbklmabGreatDoor

namespace Go.Proofs.YtleenphlgbklmabGreatDoor
open Go.RowKit

theorem Tryz.info9 : (Tryz.prog.info? 9).map (fun i => (i.zero, i.size, i.bytes)) = some (some (.string { data := #[] }), 1, 16) := by kernel_rfl
theorem dupB_snoc (xs : List ByteArray) (m s : ByteArray) (loc : Nat) (b : Int) : dupB (xs ++ [m]) s loc b = if ((m.data.toList == s.data.toList) && decide (dupB xs s loc b < 0)) = true then (loc : Int) else dupB xs s loc b := by
  unfold dupB
  rw [List.any_append]
  simp only [List.any_cons, List.any_nil, Bool.or_false]
  generalize (m.data.toList == s.data.toList) = q
  generalize (xs.any fun m => m.data.toList == s.data.toList) = r
  by_cases h2 : b < 0 <;> cases q <;> cases r <;> simp [h2]
theorem dupB_take (names : List ByteArray) (i : Nat) (hi : i < names.length) (s : ByteArray) (loc : Nat) (b : Int) :
    dupB (names.take (i + 1)) s loc b = if (((names.getD i Tk.no.s).data.toList == s.data.toList) && decide (dupB (names.take i) s loc b < 0)) = true then (loc : Int) else dupB (names.take i) s loc b := by
  rw [← dupB_snoc, List.take_succ_eq_append_getElem hi]
  simp [List.getD, hi]

end Go.Proofs.YtleenphlgbklmabGreatDoor

namespace Go.Proofs.YtleenphlgbklmabGreatDoor
open Go.RowKit

section
variable {w wx w5 w6 : World} {rb tb c : Nat} {l : List Tk} {k k' : Nat} {bad bad' : Int} {xb : Nat} {op : ByteArray} {names : List ByteArray} {kids : List X} {loc : Nat} {nv lv : Value} {ps : List Value} {fk : List Nat}

end
end Go.Proofs.YtleenphlgbklmabGreatDoor
