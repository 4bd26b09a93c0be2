import Derived.Deep.DeepCutAuto
import Derived.Deep.LoopGhost
import Derived.Deep.CutBlock
import Derived.Lib.SlBytesConst
import Derived.Laws.DeepStrings4
import Derived.Test.YtleenphlgbklmaaGreatDoorVGrow
import Derived.Test.YtleenphlgbklmaaGreatDoorVTyMirror
import Derived.Test.YtleenphlgbklmaaGreatDoorVMid
import Derived.Test.YtleenphlgbklmaaGreatDoorVWExpD
import Derived.Test.YtleenphlgbklmaaGreatDoorVRefGood
set_option linter.unusedVariables false
set_option linter.unusedSimpArgs false
namespace Go.Proofs.YtleenphlgbklmaaGreatDoor
open Go.RowKit

theorem Kp.then {S T : Nat → Prop} {a b c : World} (h : Kp S a b) (k : Kp T b c) (hT : ∀ q, q < a.heap.size → T q → S q) : Kp S a c :=
  ⟨k.os.trans h.os, k.tape.trans h.tape, k.output.trans h.output, Nat.le_trans h.size k.size, fun q hq hs => (k.block q (Nat.lt_of_lt_of_le hq h.size) (fun e => hs (hT q hq e))).trans (h.block q hq hs)⟩

end Go.Proofs.YtleenphlgbklmaaGreatDoor
