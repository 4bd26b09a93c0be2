import Derived.Test.YtleenphlgbklmabGreatDoorXPCk
set_option linter.unusedVariables false
set_option linter.unusedSimpArgs false
namespace Go.Proofs.YtleenphlgbklmabGreatDoor
open Go.RowKit

set_option maxRecDepth 20000 in
set_option maxHeartbeats 4000000 in
theorem c_num {w : World} {p : Option Addr} {gm eb : Nat} : Calls Tryz.prog 72 #[.iface 259 (.pointer (some ⟨eb, 0, none⟩)), .agg #[.pointer p, .map (some gm)]] w (ChO w none) := by
  have q0 := fun W => Tryz.xNuNa (.pointer (some ⟨eb, 0, none⟩)) W
  have q1 := fun W => Tryz.xNuFu (.pointer (some ⟨eb, 0, none⟩)) W
  have q2 := fun W => Tryz.xNuIf (.pointer (some ⟨eb, 0, none⟩)) W
  have q3 := fun W => Tryz.xNuLe (.pointer (some ⟨eb, 0, none⟩)) W
  have q4 := fun W => Tryz.xNuRe (.pointer (some ⟨eb, 0, none⟩)) W
  have q5 := fun W => Tryz.xNuAp (.pointer (some ⟨eb, 0, none⟩)) W
  have q6 := fun W => Tryz.xNuPa (.pointer (some ⟨eb, 0, none⟩)) W
  have HF : Hid (ChO w none (.returned (.tuple #[])) (w.alloc (.cells #[.pointer p, .map (some gm)] 168))) := ⟨Kept.alloc _ _, rfl⟩
  go_enter Tryz.func72, Tryz.ntmps72
  go_wp2
  exact bodyPost_end (results_none Tryz.results72 _ _ _) rfl HF.out
end Go.Proofs.YtleenphlgbklmabGreatDoor
