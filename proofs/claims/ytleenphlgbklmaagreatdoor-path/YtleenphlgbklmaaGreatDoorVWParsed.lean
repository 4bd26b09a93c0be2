import Derived.Deep.DeepCutAuto
import Derived.Deep.LoopGhost
import Derived.Deep.RegionWith
import Derived.Test.YtleenphlgbklmaaGreatDoorVTyMirror
import Derived.Test.YtleenphlgbklmaaGreatDoorVGrow
import Derived.Test.YtleenphlgbklmaaGreatDoorVMid
import Derived.Test.YtleenphlgbklmaaGreatDoorVRefGood
import Derived.Test.YtleenphlgbklmaaGreatDoorVWRead
set_option linter.unusedVariables false
set_option linter.unusedSimpArgs false
namespace Go.Proofs.YtleenphlgbklmaaGreatDoor
open Go.RowKit

section
variable {w w' w'' : World} {rb tb c : Nat} {l : List Tk} {k k' k'' : Nat} {bad bad' bad'' : Int} {nb B : Nat} {names names' names'' : List ByteArray}
theorem TEnd.take (h : TEnd w w' rb tb c l k bad nb B names) (hr : rb < B) (g : Kp (· = rb) w' w'') (r : Rd w'' rb tb c l k' bad') (hk : k' < l.length) : TEnd w w'' rb tb c l k' bad' nb B names :=
  ⟨h.kp.trans (g.mono fun q _ e => Or.inl e), h.tk.trans (TKeep.rd h.rd g), r, hk, h.nm.kp g hr⟩
theorem TEnd.start (h : Rd w rb tb c l k bad) (hk : k < l.length) (hn : Nm w nb B names) : TEnd w w rb tb c l k bad nb B names := ⟨Kp.refl _ _, TKeep.refl _, h, hk, hn⟩
theorem TEnd.trans (h : TEnd w w' rb tb c l k bad nb B names) (g : TEnd w' w'' rb tb c l k' bad' nb B names') : TEnd w w'' rb tb c l k' bad' nb B names' :=
  ⟨h.kp.trans g.kp, h.tk.trans g.tk, g.rd, g.kl, g.nm⟩
theorem TEnd.alloc (h : TEnd w w' rb tb c l k bad nb B names) (o : Obj) : TEnd w (w'.alloc o) rb tb c l k bad nb B names :=
  ⟨h.kp.alloc o, h.tk.trans (TKeep.alloc _ _), h.rd.alloc o, h.kl, h.nm.alloc o⟩
theorem TEnd.drew (h : TEnd w w' rb tb c l k bad nb B names) : TEnd w w'.drew rb tb c l k bad nb B names :=
  ⟨h.kp.drew, h.tk.trans (TKeep.drew _), h.rd.drew, h.kl, h.nm.drew⟩
end

end Go.Proofs.YtleenphlgbklmaaGreatDoor

namespace Go.Proofs.YtleenphlgbklmaaGreatDoor
open Go.RowKit

/-- the place goes on; a fault stays. -/
theorem needB_geT {l : List Tk} {s : ByteArray} {k : Nat} {bad : Int} (h : 0 ≤ bad) : needB l s k bad = bad := by
  unfold needB
  rw [if_neg (by simp; omega)]
theorem isM_geT {l : List Tk} {s : ByteArray} {k : Nat} {bad : Int} (h : 0 ≤ bad) : isM l s k bad = false := by
  unfold isM
  have : decide (bad < 0) = false := by simp; omega
  rw [this]; rfl
end Go.Proofs.YtleenphlgbklmaaGreatDoor

namespace Go.Proofs.YtleenphlgbklmaaGreatDoor
open Go.RowKit

mutual
theorem Ty.ind {P : Ty → Prop} (h : ∀ kd n kids, (∀ y, y ∈ kids → P y) → P (.mk kd n kids)) : ∀ x, P x
  | .mk kd n kids => h kd n kids (Ty.indL h kids)
theorem Ty.indL {P : Ty → Prop} (h : ∀ kd n kids, (∀ y, y ∈ kids → P y) → P (.mk kd n kids)) : ∀ (xs : List Ty) y, y ∈ xs → P y
  | [], y, hy => nomatch hy
  | x :: xs, y, hy => by
    rcases List.mem_cons.1 hy with e | e
    · rw [e]; exact Ty.ind h x
    · exact Ty.indL h xs y e
end

mutual
def sz : Ty → Nat
  | .mk _ _ kids => szs kids + 1
def szs : List Ty → Nat
  | [] => 0
  | x :: xs => sz x + szs xs
end
def Ty.no : Ty := .mk { data := #[] } 0 []
theorem TReps.at {w : World} {ts : List Ty} {ps : List Value} (h : TReps w ts ps) (q : Nat) (hq : q < ts.length) : TRep w (ts.getD q Ty.no) (ps.getD q (.pointer none)) := by
  obtain ⟨p, h1, h2⟩ := h.get q ts[q] (List.getElem?_eq_getElem hq)
  simpa [List.getD, hq, h1] using h2
end Go.Proofs.YtleenphlgbklmaaGreatDoor

namespace Go.Proofs.YtleenphlgbklmaaGreatDoor
open Go.RowKit

/-- a type as it ought to be, of m variables. -/
inductive WT (m : Nat) : Ty → Prop
  | var (n : Nat) : n < m → WT m (.mk { data := #[] } n [])
  | int : WT m (.mk { data := #[105, 110, 116] } 0 [])
  | bool : WT m (.mk { data := #[98, 111, 111, 108] } 0 [])
  | list (a : Ty) : WT m a → WT m (.mk { data := #[108, 105, 115, 116] } 0 [a])
  | pair (a b : Ty) : WT m a → WT m b → WT m (.mk { data := #[112, 97, 105, 114] } 0 [a, b])
  | fn (a b : Ty) : WT m a → WT m b → WT m (.mk { data := #[102, 117, 110] } 0 [a, b])
theorem WT.up {m m' : Nat} (hm : m ≤ m') {t : Ty} (h : WT m t) : WT m' t := by
  induction h with
  | var n hn => exact .var n (by omega)
  | int => exact .int
  | bool => exact .bool
  | list a _ ih => exact .list a ih
  | pair a b _ _ iha ihb => exact .pair a b iha ihb
  | fn a b _ _ iha ihb => exact .fn a b iha ihb

end Go.Proofs.YtleenphlgbklmaaGreatDoor

namespace Go.Proofs.YtleenphlgbklmaaGreatDoor
open Go.RowKit

def kkinds : List ByteArray := [{ data := #[105, 110, 116] }, { data := #[98, 111, 111, 108] }]
/-- the document's tokens of a type's text. -/
def lexT (s : ByteArray) : List Tk := toksF s kkinds (s.size + 1) 0

end Go.Proofs.YtleenphlgbklmaaGreatDoor
