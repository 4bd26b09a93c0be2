import Derived.Test.YtleenphlgbklmabGreatDoorUTGood
import Derived.Deep.RegionWith
set_option linter.unusedVariables false
set_option linter.unusedSimpArgs false
namespace Go.Proofs.YtleenphlgbklmabGreatDoor
open Go.RowKit

def Ty.kind : Ty → ByteArray | .mk k _ _ => k
def brkT (b : Bool) (a : ByteArray) : ByteArray := if b then { data := #[40] } ++ a ++ { data := #[41] } else a
mutual
def shT (names : List ByteArray) : Ty → ByteArray
  | .mk kd n kids =>
    if kd.data.toList == [] then names.getD n { data := #[] }
    else if kd.data.toList == ({ data := #[108, 105, 115, 116] } : ByteArray).data.toList then { data := #[91] } ++ (shTs names kids).getD 0 { data := #[] } ++ { data := #[93] }
    else if kd.data.toList == ({ data := #[112, 97, 105, 114] } : ByteArray).data.toList then { data := #[40] } ++ (shTs names kids).getD 0 { data := #[] } ++ { data := #[44, 32] } ++ (shTs names kids).getD 1 { data := #[] } ++ { data := #[41] }
    else if kd.data.toList == ({ data := #[102, 117, 110] } : ByteArray).data.toList then brkT ((kids.getD 0 Ty.no).kind.data.toList == ({ data := #[102, 117, 110] } : ByteArray).data.toList) ((shTs names kids).getD 0 { data := #[] }) ++ { data := #[32, 45, 62, 32] } ++ (shTs names kids).getD 1 { data := #[] }
    else kd
def shTs (names : List ByteArray) : List Ty → List ByteArray
  | [] => []
  | t :: ts => shT names t :: shTs names ts
end
section
variable (names : List ByteArray) (a b : Ty)
theorem shT_var (n : Nat) : shT names (.mk { data := #[] } n []) = names.getD n { data := #[] } := by simp [shT]
theorem shT_int : shT names (.mk { data := #[105, 110, 116] } 0 []) = { data := #[105, 110, 116] } := by simp [shT]
theorem shT_bool : shT names (.mk { data := #[98, 111, 111, 108] } 0 []) = { data := #[98, 111, 111, 108] } := by simp [shT]
theorem shT_list : shT names (.mk { data := #[108, 105, 115, 116] } 0 [a]) = { data := #[91] } ++ shT names a ++ { data := #[93] } := by simp [shT, shTs]
theorem shT_pair : shT names (.mk { data := #[112, 97, 105, 114] } 0 [a, b]) = { data := #[40] } ++ shT names a ++ { data := #[44, 32] } ++ shT names b ++ { data := #[41] } := by simp [shT, shTs]
theorem shT_fn : shT names (.mk { data := #[102, 117, 110] } 0 [a, b]) = brkT (a.kind.data.toList == ({ data := #[102, 117, 110] } : ByteArray).data.toList) (shT names a) ++ { data := #[32, 45, 62, 32] } ++ shT names b := by simp [shT, shTs]
end
theorem brkT_size (b : Bool) (a : ByteArray) : (brkT b a).size ≤ a.size + 2 := by
  unfold brkT
  split
  · simp only [ByteArray.size_append]
    have h1 : ({ data := #[40] } : ByteArray).size = 1 := rfl
    have h2 : ({ data := #[41] } : ByteArray).size = 1 := rfl
    omega
  · omega
theorem shT_size (names : List ByteArray) (M : Nat) (hM : 4 ≤ M) (hn : ∀ m, m ∈ names → m.size ≤ M) {t : Ty} (h : WT names.length t) : (shT names t).size ≤ (M + 6) * sz t := by
  induction h with
  | var n hn2 =>
    rw [shT_var]
    have : names.getD n { data := #[] } ∈ names := by simp [List.getD, hn2]
    have := hn _ this
    simp only [sz, szs]; omega
  | int => rw [shT_int]; have : ({ data := #[105, 110, 116] } : ByteArray).size = 3 := rfl; simp only [sz, szs]; omega
  | bool => rw [shT_bool]; have : ({ data := #[98, 111, 111, 108] } : ByteArray).size = 4 := rfl; simp only [sz, szs]; omega
  | list a _ ih =>
    rw [shT_list]
    simp only [ByteArray.size_append, sz, szs, Nat.mul_add]
    have h1 : ({ data := #[91] } : ByteArray).size = 1 := rfl
    have h2 : ({ data := #[93] } : ByteArray).size = 1 := rfl
    omega
  | pair a b _ _ ih ih2 =>
    rw [shT_pair]
    simp only [ByteArray.size_append, sz, szs, Nat.mul_add]
    have h1 : ({ data := #[40] } : ByteArray).size = 1 := rfl
    have h2 : ({ data := #[41] } : ByteArray).size = 1 := rfl
    have h3 : ({ data := #[44, 32] } : ByteArray).size = 2 := rfl
    omega
  | fn a b _ _ ih ih2 =>
    rw [shT_fn]
    generalize (a.kind.data.toList == ({ data := #[102, 117, 110] } : ByteArray).data.toList) = q
    have := brkT_size q (shT names a)
    simp only [ByteArray.size_append, sz, szs, Nat.mul_add]
    have h1 : ({ data := #[32, 45, 62, 32] } : ByteArray).size = 4 := rfl
    omega

theorem ret_strT {a b : ByteArray} (h : a = b) : Ending.returned (.string a) = .returned (.string b) := by rw [h]

end Go.Proofs.YtleenphlgbklmabGreatDoor
