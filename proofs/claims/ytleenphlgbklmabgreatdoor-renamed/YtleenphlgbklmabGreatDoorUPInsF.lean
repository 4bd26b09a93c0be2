import Derived.Test.YtleenphlgbklmabGreatDoorUPInsE
set_option linter.unusedVariables false
set_option linter.unusedSimpArgs false
namespace Go.Proofs.YtleenphlgbklmabGreatDoor
open Go.RowKit

def InP (n1 : Nat) (ks tx nm sh : Nat → ByteArray) : Prop := (∀ k q, k < n1 → q < n1 → ks q = nm k → tx q = sh k) ∧ (∀ q, q + 1 < n1 → Op.bytesLess (ks q).toList (ks (q + 1)).toList = true) ∧ (∀ k, k < n1 → ∃ q, q < n1 ∧ ks q = nm k)
end Go.Proofs.YtleenphlgbklmabGreatDoor
