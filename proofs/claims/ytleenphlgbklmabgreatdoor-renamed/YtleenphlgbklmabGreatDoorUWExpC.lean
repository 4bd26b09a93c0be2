import Derived.Test.YtleenphlgbklmabGreatDoorUMid
set_option linter.unusedVariables false
set_option linter.unusedSimpArgs false
namespace Go.Proofs.YtleenphlgbklmabGreatDoor
open Go.RowKit

theorem boundM_len {l : List Tk} {n : Nat} {names : List ByteArray} {kids : List X} {k : Nat} {bad : Int} {r : List ByteArray × List X × Nat × Int} (h : boundM l n names kids k bad = some r) : r.1.length = names.length + 1 ∧ r.2.1.length = kids.length + 1 := by
  cases n with
  | zero => simp [boundM] at h
  | succ n =>
    simp only [boundM] at h
    obtain ⟨y, _, hq⟩ := Option.bind_eq_some_iff.1 h
    simp only [Option.some.injEq] at hq
    subst hq
    simp

end Go.Proofs.YtleenphlgbklmabGreatDoor
