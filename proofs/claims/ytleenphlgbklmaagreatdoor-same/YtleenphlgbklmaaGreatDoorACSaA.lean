import Derived.Test.YtleenphlgbklmaaGreatDoorCards
import Derived.Test.YtleenphlgbklmaaGreatDoorACEndA
set_option linter.unusedVariables false
set_option linter.unusedSimpArgs false
set_option maxRecDepth 100000
set_option maxHeartbeats 8000000
namespace Go.Proofs.YtleenphlgbklmaaGreatDoor
open Go.RowKit
variable {a b:Bool}
theorem and2(d:a=true)(h:b=true):(a&&b)=true:=by rw[d,h];rfl
theorem JhD:joinedFacts Tryz.checked.prog 13 Tryz.f13 Rows.sameSpec Rows.sameRow=true:=by
 unfold joinedFacts;refine(and2 (and2 (and2 (and2 (and2 (and2 (and2 (and2 (and2 (and2 (and2 (and2 (and2 (and2 (and2 (and2 (and2 (and2 (and2 (and2 (and2 (and2 (and2 (and2 (and2 (and2 (and2 (and2 (and2 (and2 (and2 ?_ ?_) ?_) ?_) ?_) ?_) ?_) ?_) ?_) ?_) ?_) ?_) ?_) ?_) ?_) ?_) ?_) ?_) ?_) ?_) ?_) ?_) ?_) ?_) ?_) ?_) ?_) ?_) ?_) ?_) ?_) ?_)
 all_goals (as_aux_lemma=>kernel_rfl)
end Go.Proofs.YtleenphlgbklmaaGreatDoor
