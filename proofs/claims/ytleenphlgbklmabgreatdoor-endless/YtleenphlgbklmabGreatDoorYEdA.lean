import Derived.Test.YtleenphlgbklmabGreatDoorYPRs
import Derived.Test.YtleenphlgbklmabGreatDoorYKTa
set_option linter.unusedVariables false
set_option linter.unusedSimpArgs false
namespace Go.Proofs.YtleenphlgbklmabGreatDoor
open Go.RowKit

def bqs : List ByteArray → List ByteArray → Bool
  | [], [] => true
  | a :: l, b :: m => bq a b && bqs l m
  | _, _ => false
theorem bqs_iff : ∀ {l m : List ByteArray}, bqs l m = true → l = m
  | [], [], _ => rfl
  | a :: l, b :: m, h => by
    simp only [bqs, Bool.and_eq_true] at h
    rw [bq_iff.1 h.1, bqs_iff h.2]
  | [], _ :: _, h => by cases h
  | _ :: _, [], h => by cases h
def rqs : List Rdt → List Rdt → Bool
  | [], [] => true
  | (a, n, u) :: l, (b, k, v) :: m => bqs a b && Nat.beq n k && bqs u v && rqs l m
  | _, _ => false
theorem rqs_iff : ∀ {l m : List Rdt}, rqs l m = true → l = m
  | [], [], _ => rfl
  | (a, n, u) :: l, (b, k, v) :: m, h => by
    simp only [rqs, Bool.and_eq_true] at h
    obtain ⟨⟨⟨h1, h2⟩, h3⟩, h4⟩ := h
    rw [bqs_iff h1, Nat.eq_of_beq_eq_true h2, bqs_iff h3, rqs_iff h4]
  | [], _ :: _, h => by cases h
  | _ :: _, [], h => by cases h
/-- the answers of a watched text: the same, to the last byte. -/
def wqs (a : Option (IfO × List Rdt)) (b : IfO × List Rdt) : Bool := match a, b with
  | some (.sen i, o), (.sen j, p) => Nat.beq i j && rqs o p
  | some (.txt t, o), (.txt u, p) => bq t u && rqs o p
  | _, _ => false
theorem wqs_iff {a : Option (IfO × List Rdt)} {b : IfO × List Rdt} (h : wqs a b = true) : a = some b := by
  unfold wqs at h
  split at h
  · simp only [Bool.and_eq_true] at h
    rw [Nat.eq_of_beq_eq_true h.1, rqs_iff h.2]
  · simp only [Bool.and_eq_true] at h
    rw [bq_iff.1 h.1, rqs_iff h.2]
  · cases h
/-- a -> b -> .., so many arrows. -/
def enW : Nat → ByteArray
  | 0 => { data := #[97] }
  | k + 1 => enW k ++ ({ data := #[32, 45, 62, 32] } ++ { data := #[UInt8.ofNat (98 + k)] })
def enT : ByteArray := { data := #[108, 101, 116, 32, 114, 101, 99, 32, 102, 32, 61, 32, 102, 117, 110, 32, 120, 32, 45, 62, 32, 102, 32, 105, 110, 32, 102] }
def enO (m : Nat) : List Rdt := (List.range m).map fun i => ([{ data := #[102] }], i + 1, [enW (i + 1)])
def enM (fl stop : Nat) : Nat := if 0 < stop ∧ stop ≤ fl then stop else fl
def enJ (fl stop : Nat) : Nat := if 0 < stop ∧ stop ≤ fl then 6 else 5
def enAll (fl stop : Nat) : Bool := wqs (inferW stop fl enT) (.sen (enJ fl stop), enO (enM fl stop))
def enRow (fl : Nat) : Bool := (List.range 15).all (enAll fl)
theorem en_all : ((List.range 12).all fun f => enRow (f + 1)) = true := by kernel_rfl
theorem en_at {fl stop : Nat} (h1 : 1 ≤ fl) (h2 : fl ≤ 12) (h3 : stop < 15) : inferW stop fl enT = some (.sen (enJ fl stop), enO (enM fl stop)) := by
  have h := List.all_eq_true.1 en_all (fl - 1) (by simp; omega)
  rw [show fl - 1 + 1 = fl by omega] at h
  exact wqs_iff (List.all_eq_true.1 h stop (by simpa using h3))
theorem enW_size : ∀ k, (enW k).size = 1 + 5 * k
  | 0 => rfl
  | k + 1 => by
    rw [enW, ByteArray.size_append, ByteArray.size_append, enW_size k]
    show 1 + 5 * k + (4 + 1) = _
    omega
theorem enO_len (m : Nat) : (enO m).length = m := by simp [enO]
theorem enO_get {m i : Nat} (h : i < (enO m).length) : (enO m)[i] = ([{ data := #[102] }], i + 1, [enW (i + 1)]) := by simp [enO]
end Go.Proofs.YtleenphlgbklmabGreatDoor
