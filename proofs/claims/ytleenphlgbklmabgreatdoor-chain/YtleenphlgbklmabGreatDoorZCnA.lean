import Derived.Test.YtleenphlgbklmabGreatDoorZEdA
set_option linter.unusedVariables false
set_option linter.unusedSimpArgs false
namespace Go.Proofs.YtleenphlgbklmabGreatDoor
open Go.RowKit

/-- the text of a chain of so many names, without its end. -/
def cqS : Nat → ByteArray
  | 0 => { data := #[108, 101, 116, 32, 114, 101, 99, 32, 102, 48, 32, 61, 32, 49] }
  | k + 1 => cqS k ++ ((({ data := #[32, 97, 110, 100, 32, 102] } ++ bytesN [48 + (k + 1)]) ++ { data := #[32, 61, 32, 102] }) ++ bytesN [48 + k])
def cqT (n : Nat) : ByteArray := (cqS n ++ { data := #[32, 105, 110, 32, 102] }) ++ bytesN [48 + n]
def cqN (k : Nat) : ByteArray := { data := #[102] } ++ bytesN [48 + k]
def cqU (i k : Nat) : ByteArray := if k < i + 1 then { data := #[105, 110, 116] } else { data := #[97] }
def cqO (n m : Nat) : List Rdt := (List.range m).map fun i => ((List.range (n + 1)).map cqN, i + 1, (List.range (n + 1)).map (cqU i))
def cqM (n fl : Nat) : Nat := if fl < n + 2 then fl else n + 2
def cqR (n fl : Nat) : IfO := if fl < n + 2 then .sen 5 else .txt { data := #[105, 110, 116] }
def cqAll (n fl : Nat) : Bool := wqs (inferW 0 fl (cqT n)) (cqR n fl, cqO n (cqM n fl))
def cqRow (n : Nat) : Bool := (List.range 12).all fun f => cqAll n (f + 1)
theorem cq_0 : cqRow 0 = true := by kernel_rfl
theorem cq_1 : cqRow 1 = true := by kernel_rfl
theorem cq_2 : cqRow 2 = true := by kernel_rfl
theorem cq_3 : cqRow 3 = true := by kernel_rfl
theorem cq_4 : cqRow 4 = true := by kernel_rfl
theorem cq_5 : cqRow 5 = true := by kernel_rfl
theorem cq_6 : cqRow 6 = true := by kernel_rfl
theorem cq_7 : cqRow 7 = true := by kernel_rfl
theorem cq_8 : cqRow 8 = true := by kernel_rfl
theorem cq_row : ∀ n, n ≤ 8 → cqRow n = true
  | 0, _ => cq_0
  | 1, _ => cq_1
  | 2, _ => cq_2
  | 3, _ => cq_3
  | 4, _ => cq_4
  | 5, _ => cq_5
  | 6, _ => cq_6
  | 7, _ => cq_7
  | 8, _ => cq_8
  | n + 9, h => by omega
theorem cq_at {n fl : Nat} (h0 : n ≤ 8) (h1 : 1 ≤ fl) (h2 : fl ≤ 12) : inferW 0 fl (cqT n) = some (cqR n fl, cqO n (cqM n fl)) := by
  have h := List.all_eq_true.1 (cq_row n h0) (fl - 1) (by simp; omega)
  rw [show fl - 1 + 1 = fl by omega] at h
  exact wqs_iff h
theorem cqS_size : ∀ k, (cqS k).size = 14 + 12 * k
  | 0 => rfl
  | k + 1 => by
    rw [cqS, ByteArray.size_append, ByteArray.size_append, ByteArray.size_append, ByteArray.size_append, cqS_size k]
    show 14 + 12 * k + (6 + 1 + 4 + 1) = _
    omega
theorem cqO_len (n m : Nat) : (cqO n m).length = m := by simp [cqO]
theorem cqO_get {n m i : Nat} (h : i < (cqO n m).length) : (cqO n m)[i] = ((List.range (n + 1)).map cqN, i + 1, (List.range (n + 1)).map (cqU i)) := by simp [cqO]
end Go.Proofs.YtleenphlgbklmabGreatDoor
