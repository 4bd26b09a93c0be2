import Derived.Test.YtleenphlgbklmabGreatDoorXTree
import Derived.Test.YtleenphlgbklmabGreatDoorXPCk
import Derived.Deep.OwnRows
import Derived.Test.YtleenphlgbklmabGreatDoorXPEv
set_option linter.unusedVariables false
set_option linter.unusedSimpArgs false
namespace Go.Proofs.YtleenphlgbklmabGreatDoor
open Go.RowKit

theorem tol_nz {t : ByteArray} (h : t ≠ { data := #[] }) : t.toList.isEmpty = false := by
  rw [Go.ByteArray.toList_eq]
  cases hh : t.data.toList with
  | nil => exact absurd (ByteArray.ext (by simpa using hh)) h
  | cons a l => rfl
end Go.Proofs.YtleenphlgbklmabGreatDoor

namespace Go.Proofs.YtleenphlgbklmabGreatDoor
open Go.RowKit

/-- the types of a row. -/
def RVs (ad : List Nat) (ts : List TR) (vals : List Value) : Prop := vals.length = ts.length ∧ ∀ j (h : j < ts.length) (h2 : j < vals.length), RV ad ts[j] vals[j]
end Go.Proofs.YtleenphlgbklmabGreatDoor

namespace Go.Proofs.YtleenphlgbklmabGreatDoor
open Go.RowKit

section
variable {ω : Type} (A : Nat → Addr) (B : Nat) (K : World → ω → Prop)
end
section
variable {ω : Type} {A : Nat → Addr} {B : Nat} {K : World → ω → Prop} {gv : Gv} {fuel : Nat} {wv : Value}
/-- what stands while a round types. -/
structure RI (w : World) (ad : List Nat) (fl : Int) (own own2 : List Bd) (p p2 : Option Addr) (gm n : Nat) (ts : List TR) (σ : St) (o : ω) (wr : World) (ad2 : List Nat) (vals : List Value) : Prop where
  by0 : wr.heap[w.heap.size]? = some (.cells #[.int .i64 fl, wv] 103 (0, 0))
  sc : wr.heap[w.heap.size + 1]? = some (.cells #[.pointer p2, .map (some gm)] 168 (0, 0))
  so : wr.heap[w.heap.size + 1 + 1]? = some (.cells #[.pointer p, .map (some gm)] 168 (0, 0))
  row : wr.heap[w.heap.size + 1 + 1 + 1]? = some (.cells (vals ++ List.replicate (n - vals.length) Value.nilIface).toArray 77 (0, 0))
  rv : RVs ad2 ts vals
  ti : TI A B K wr ad2 σ own gv p gm o
  ch : CH wr (RV ad2) own2 (.pointer p2)
  gk : Gk B ad ad2 w wr
end
end Go.Proofs.YtleenphlgbklmabGreatDoor

namespace Go.Proofs.YtleenphlgbklmabGreatDoor
open Go.RowKit

theorem cell_of {V : World} {b i : Nat} {cs : Array Value} {t : TypeId} {v : Value} (h : V.heap[b]? = some (.cells cs t (0, 0))) (hv : cs[i]? = some v) : V.cell? ⟨b, i, none⟩ = some v := by simp [World.cell?, h, hv]
end Go.Proofs.YtleenphlgbklmabGreatDoor
