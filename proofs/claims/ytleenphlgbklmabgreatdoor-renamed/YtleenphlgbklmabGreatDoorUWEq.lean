import Derived.Test.YtleenphlgbklmabGreatDoorUTGood
import Derived.Deep.DeepCutAuto
import Derived.Deep.LoopGhost
set_option linter.unusedVariables false
set_option linter.unusedSimpArgs false
namespace Go.Proofs.YtleenphlgbklmabGreatDoor
open Go.RowKit

mutual
def eqM : Ty → Ty → Bool
  | .mk k n l, .mk k' n' l' => (k.data.toList == k'.data.toList) && decide (n = n') && decide (l.length = l'.length) && eqMs l l'
def eqMs : List Ty → List Ty → Bool
  | [], _ => true
  | _ :: _, [] => true
  | t :: ts, u :: us => eqM t u && eqMs ts us
end
theorem eqMs_take (ts us : List Ty) (q : Nat) (h1 : q < ts.length) (h2 : q < us.length) : eqMs (ts.take (q + 1)) (us.take (q + 1)) = (eqMs (ts.take q) (us.take q) && eqM (ts.getD q Ty.no) (us.getD q Ty.no)) := by
  induction ts generalizing us q with
  | nil => simp at h1
  | cons t ts ih =>
    cases us with
    | nil => simp at h2
    | cons u us =>
      cases q with
      | zero => simp [eqMs]
      | succ q =>
        have := ih us q (by simpa using h1) (by simpa using h2)
        simp only [List.take_succ_cons, eqMs, List.getD_cons_succ] at *
        rw [this, Bool.and_assoc]
theorem eqMs_false (ts us : List Ty) (q : Nat) (h1 : q < ts.length) (h2 : q < us.length) (h : eqM (ts.getD q Ty.no) (us.getD q Ty.no) = false) : eqMs ts us = false := by
  induction ts generalizing us q with
  | nil => simp at h1
  | cons t ts ih =>
    cases us with
    | nil => simp at h2
    | cons u us =>
      cases q with
      | zero => simp at h; simp [eqMs, h]
      | succ q =>
        simp only [eqMs]
        rw [ih us q (by simpa using h1) (by simpa using h2) (by simpa using h)]
        simp

end Go.Proofs.YtleenphlgbklmabGreatDoor
