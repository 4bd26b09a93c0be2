import Derived.Laws.DeepStrings4
import Derived.Test.YtleenphlgbklmabGreatDoorXKTa
import Derived.Test.YtleenphlgbklmabGreatDoorXPEv
set_option linter.unusedVariables false
set_option linter.unusedSimpArgs false
namespace Go.Proofs.YtleenphlgbklmabGreatDoor
open Go.RowKit

theorem flatv_get {α : Type} (f : α → List Value) (k : Nat) (hf : ∀ a, (f a).length = k) : ∀ (l : List α) (j i : Nat) (hj : j < l.length) (hi : i < k), (l.flatMap f)[k * j + i]? = (f l[j])[i]?
  | [], j, i, hj, _ => by simp at hj
  | a :: l, 0, i, _, hi => by
    simp only [List.flatMap_cons, Nat.mul_zero, Nat.zero_add, List.getElem_cons_zero]
    rw [List.getElem?_append_left (by rw [hf]; exact hi)]
  | a :: l, j + 1, i, hj, hi => by
    simp only [List.flatMap_cons, List.getElem_cons_succ]
    rw [List.getElem?_append_right (by rw [hf, Nat.mul_add]; omega), hf, show k * (j + 1) + i - k = k * j + i by rw [Nat.mul_add]; omega]
    exact flatv_get f k hf l j i (by simpa using hj) hi
end Go.Proofs.YtleenphlgbklmabGreatDoor
