import Derived.Test.YtleenphlgbklmaaGreatDoorVMid
set_option linter.unusedVariables false
set_option linter.unusedSimpArgs false
namespace Go.Proofs.YtleenphlgbklmaaGreatDoor
open Go.RowKit

theorem Rep.c3 {w : World} {x : X} {b : Nat} {fs : List Nat} (h : Rep w x (.pointer (some ⟨b, 0, none⟩)) fs) : w.cell? ⟨b, 3, none⟩ = some (.int .i64 x.loc) ∧ b ∈ fs := by
  cases x with
  | mk op names kids loc =>
    simp only [Rep] at h
    obtain ⟨b', nv, lv, ps, fk, h1, h2, _, _, _, h6⟩ := h
    injection h1 with h1
    injection h1 with h1
    injection h1 with h1
    subst h1 h6
    exact ⟨by simp [World.cell?, h2, X.loc], by simp⟩

end Go.Proofs.YtleenphlgbklmaaGreatDoor
