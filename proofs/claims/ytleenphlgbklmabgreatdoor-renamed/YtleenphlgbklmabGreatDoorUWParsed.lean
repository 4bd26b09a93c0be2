import Derived.Test.YtleenphlgbklmabGreatDoorUWRead
import Derived.Test.YtleenphlgbklmabGreatDoorUTGood
set_option linter.unusedVariables false
set_option linter.unusedSimpArgs false
namespace Go.Proofs.YtleenphlgbklmabGreatDoor
open Go.RowKit

def kkinds : List ByteArray := [{ data := #[105, 110, 116] }, { data := #[98, 111, 111, 108] }]
/-- the document's tokens of a type's text. -/
def lexT (s : ByteArray) : List Tk := toksF s kkinds (s.size + 1) 0

end Go.Proofs.YtleenphlgbklmabGreatDoor
