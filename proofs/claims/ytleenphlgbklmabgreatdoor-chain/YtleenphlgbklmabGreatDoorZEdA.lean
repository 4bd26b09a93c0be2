import Derived.Test.YtleenphlgbklmabGreatDoorZPRs
import Derived.Test.YtleenphlgbklmabGreatDoorZKTa
set_option linter.unusedVariables false
set_option linter.unusedSimpArgs false
namespace Go.Proofs.YtleenphlgbklmabGreatDoor
open Go.RowKit

def bqs : List ByteArray → List ByteArray → Bool
  | [], [] => true
  | a :: l, b :: m => bq a b && bqs l m
  | _, _ => false
theorem bqs_iff : ∀ {l m : List ByteArray}, bqs l m = true → l = m
  | [], [], _ => rfl
  | a :: l, b :: m, h => by
    simp only [bqs, Bool.and_eq_true] at h
    rw [bq_iff.1 h.1, bqs_iff h.2]
  | [], _ :: _, h => by cases h
  | _ :: _, [], h => by cases h
def rqs : List Rdt → List Rdt → Bool
  | [], [] => true
  | (a, n, u) :: l, (b, k, v) :: m => bqs a b && Nat.beq n k && bqs u v && rqs l m
  | _, _ => false
theorem rqs_iff : ∀ {l m : List Rdt}, rqs l m = true → l = m
  | [], [], _ => rfl
  | (a, n, u) :: l, (b, k, v) :: m, h => by
    simp only [rqs, Bool.and_eq_true] at h
    obtain ⟨⟨⟨h1, h2⟩, h3⟩, h4⟩ := h
    rw [bqs_iff h1, Nat.eq_of_beq_eq_true h2, bqs_iff h3, rqs_iff h4]
  | [], _ :: _, h => by cases h
  | _ :: _, [], h => by cases h
/-- the answers of a watched text: the same, to the last byte. -/
def wqs (a : Option (IfO × List Rdt)) (b : IfO × List Rdt) : Bool := match a, b with
  | some (.sen i, o), (.sen j, p) => Nat.beq i j && rqs o p
  | some (.txt t, o), (.txt u, p) => bq t u && rqs o p
  | _, _ => false
theorem wqs_iff {a : Option (IfO × List Rdt)} {b : IfO × List Rdt} (h : wqs a b = true) : a = some b := by
  unfold wqs at h
  split at h
  · simp only [Bool.and_eq_true] at h
    rw [Nat.eq_of_beq_eq_true h.1, rqs_iff h.2]
  · simp only [Bool.and_eq_true] at h
    rw [bq_iff.1 h.1, rqs_iff h.2]
  · cases h
end Go.Proofs.YtleenphlgbklmabGreatDoor
