import Derived.Deep.DeepCutAuto
import Derived.Deep.LoopGhost
import Derived.Deep.CutBlock
import Derived.Lib.SlBytesConst
import Derived.Laws.DeepStrings4
import Derived.Test.YtleenphlgbklmabGreatDoorZTree
import Derived.Test.YtleenphlgbklmabGreatDoorZWDeep
import Derived.Test.YtleenphlgbklmabGreatDoorZTGood
import Derived.Deep.RegionWith
set_option linter.unusedVariables false
set_option linter.unusedSimpArgs false
namespace Go.Proofs.YtleenphlgbklmabGreatDoor
open Go.RowKit

def kkinds : List ByteArray := [{ data := #[105, 110, 116] }, { data := #[98, 111, 111, 108] }]
/-- the document's tokens of a type's text. -/
def lexT (s : ByteArray) : List Tk := toksF s kkinds (s.size + 1) 0

end Go.Proofs.YtleenphlgbklmabGreatDoor

namespace Go.Proofs.YtleenphlgbklmabGreatDoor
open Go.RowKit

def Ty.kind : Ty → ByteArray | .mk k _ _ => k
def brkT (b : Bool) (a : ByteArray) : ByteArray := if b then { data := #[40] } ++ a ++ { data := #[41] } else a
mutual
def shT (names : List ByteArray) : Ty → ByteArray
  | .mk kd n kids =>
    if kd.data.toList == [] then names.getD n { data := #[] }
    else if kd.data.toList == ({ data := #[108, 105, 115, 116] } : ByteArray).data.toList then { data := #[91] } ++ (shTs names kids).getD 0 { data := #[] } ++ { data := #[93] }
    else if kd.data.toList == ({ data := #[112, 97, 105, 114] } : ByteArray).data.toList then { data := #[40] } ++ (shTs names kids).getD 0 { data := #[] } ++ { data := #[44, 32] } ++ (shTs names kids).getD 1 { data := #[] } ++ { data := #[41] }
    else if kd.data.toList == ({ data := #[102, 117, 110] } : ByteArray).data.toList then brkT ((kids.getD 0 Ty.no).kind.data.toList == ({ data := #[102, 117, 110] } : ByteArray).data.toList) ((shTs names kids).getD 0 { data := #[] }) ++ { data := #[32, 45, 62, 32] } ++ (shTs names kids).getD 1 { data := #[] }
    else kd
def shTs (names : List ByteArray) : List Ty → List ByteArray
  | [] => []
  | t :: ts => shT names t :: shTs names ts
end
section
variable (names : List ByteArray) (a b : Ty)
theorem shT_var (n : Nat) : shT names (.mk { data := #[] } n []) = names.getD n { data := #[] } := by simp [shT]
theorem shT_int : shT names (.mk { data := #[105, 110, 116] } 0 []) = { data := #[105, 110, 116] } := by simp [shT]
theorem shT_bool : shT names (.mk { data := #[98, 111, 111, 108] } 0 []) = { data := #[98, 111, 111, 108] } := by simp [shT]
theorem shT_list : shT names (.mk { data := #[108, 105, 115, 116] } 0 [a]) = { data := #[91] } ++ shT names a ++ { data := #[93] } := by simp [shT, shTs]
theorem shT_pair : shT names (.mk { data := #[112, 97, 105, 114] } 0 [a, b]) = { data := #[40] } ++ shT names a ++ { data := #[44, 32] } ++ shT names b ++ { data := #[41] } := by simp [shT, shTs]
theorem shT_fn : shT names (.mk { data := #[102, 117, 110] } 0 [a, b]) = brkT (a.kind.data.toList == ({ data := #[102, 117, 110] } : ByteArray).data.toList) (shT names a) ++ { data := #[32, 45, 62, 32] } ++ shT names b := by simp [shT, shTs]
end
theorem brkT_size (b : Bool) (a : ByteArray) : (brkT b a).size ≤ a.size + 2 := by
  unfold brkT
  split
  · simp only [ByteArray.size_append]
    have h1 : ({ data := #[40] } : ByteArray).size = 1 := rfl
    have h2 : ({ data := #[41] } : ByteArray).size = 1 := rfl
    omega
  · omega
end Go.Proofs.YtleenphlgbklmabGreatDoor

namespace Go.Proofs.YtleenphlgbklmabGreatDoor
open Go.RowKit

def inB (ns : List Nat) (n : Nat) : Bool := ns.contains n
mutual
def varsM : Ty → List Nat → List Nat
  | .mk kd n kids, l => if kd.data.toList == [] then (if inB l n then l else l ++ [n]) else varsMs kids l
def varsMs : List Ty → List Nat → List Nat
  | [], l => l
  | t :: ts, l => varsMs ts (varsM t l)
end
mutual
theorem varsM_len : ∀ (t : Ty) (l : List Nat), l.length ≤ (varsM t l).length ∧ (varsM t l).length ≤ l.length + sz t
  | .mk kd n kids, l => by
    have := varsMs_len kids l
    simp only [varsM, sz]
    split
    · split <;> simp <;> omega
    · omega
theorem varsMs_len : ∀ (ts : List Ty) (l : List Nat), l.length ≤ (varsMs ts l).length ∧ (varsMs ts l).length ≤ l.length + szs ts
  | [], l => by simp [varsMs, szs]
  | t :: ts, l => by
    have h1 := varsM_len t l
    have h2 := varsMs_len ts (varsM t l)
    simp only [varsMs, szs]
    omega
end
theorem Tryz.info3 : (Tryz.prog.info? 3).map (fun i => (i.zero, i.size, i.bytes)) = some (some (.int .i64 0), 1, 8) := by kernel_rfl

end Go.Proofs.YtleenphlgbklmabGreatDoor

namespace Go.Proofs.YtleenphlgbklmabGreatDoor
open Go.RowKit

def bytesN (l : List Nat) : ByteArray := ⟨(l.map (fun n => UInt8.ofNat n)).toArray⟩
theorem conv1 (w : World) (z : Int) (h0 : 0 ≤ z) (h1 : z < 256) : (convert 41 9 (.slice (some ⟨w.heap.size, 0, none⟩) 1 1)).run Tryz.prog (w.alloc (.cells #[.int .u8 z] 5)) = .ok (.string (bytesN [z.toNat])) (w.alloc (.cells #[.int .u8 z] 5)) := by
  have hb : (w.alloc (.cells #[.int .u8 z] 5)).heap[w.heap.size]? = some (.cells #[.int .u8 z] 5 (0, 0)) := heap_alloc_new _ _
  have := run_convert_bytes_back (P := Tryz.prog) (w.alloc (.cells #[.int .u8 z] 5)) 41 9 5 ⟨w.heap.size, 0, none⟩ 1 [UInt8.ofNat z.toNat] Tryz.underlying41 Tryz.underlying5 Tryz.underlying9 (fun j hj => by
    have hj : j = 0 := by simpa using hj
    subst hj
    have e1 : (((UInt8.ofNat z.toNat).toNat : Nat) : Int) = z := by
      rw [UInt8.toNat_ofNat']
      omega
    have hcc : (w.alloc (.cells #[.int .u8 z] 5)).cell? ⟨w.heap.size, 0, none⟩ = some (.int .u8 z) := by unfold World.cell?; rw [hb]; rfl
    show (w.alloc (.cells #[.int .u8 z] 5)).cell? ⟨w.heap.size, 0, none⟩ = some (.int .u8 ((UInt8.ofNat z.toNat).toNat : Int))
    rw [e1]
    exact hcc)
  simpa [bytesN] using this
def letM (n : Nat) : ByteArray := if n < 26 then bytesN [97 + n] else bytesN [97 + n % 26] ++ bytesN [48 + n / 26]
theorem letM_size (n : Nat) : (letM n).size ≤ 2 := by
  unfold letM
  split
  · have : (bytesN [97 + n]).size = 1 := rfl
    omega
  · have h1 : (bytesN [97 + n % 26]).size = 1 := rfl
    have h2 : (bytesN [48 + n / 26]).size = 1 := rfl
    rw [ByteArray.size_append]
    omega
end Go.Proofs.YtleenphlgbklmabGreatDoor

namespace Go.Proofs.YtleenphlgbklmabGreatDoor
open Go.RowKit

def mxL (ns : List Nat) : Nat := ns.foldl (fun m v => if m ≤ v then v + 1 else m) 0
theorem mx_mono (ns : List Nat) (a : Nat) : a ≤ ns.foldl (fun m v => if m ≤ v then v + 1 else m) a := by
  induction ns generalizing a with
  | nil => exact Nat.le_refl _
  | cons v ns ih =>
    simp only [List.foldl_cons]
    refine Nat.le_trans ?_ (ih _)
    split <;> omega
theorem mx_mem (ns : List Nat) (a v : Nat) (h : v ∈ ns) : v < ns.foldl (fun m v => if m ≤ v then v + 1 else m) a := by
  induction ns generalizing a with
  | nil => cases h
  | cons u ns ih =>
    simp only [List.foldl_cons]
    rcases List.mem_cons.1 h with rfl | h
    · refine Nat.lt_of_lt_of_le ?_ (mx_mono ns _)
      split <;> omega
    · exact ih _ h
theorem mxL_mem {ns : List Nat} {v : Nat} (h : v ∈ ns) : v < mxL ns := mx_mem ns 0 v h
theorem varsM_leaf (n : Nat) (l : List Nat) : varsM (.mk { data := #[] } n []) l = if inB l n then l else l ++ [n] := by simp [varsM]
theorem varsM_int (l : List Nat) : varsM (.mk { data := #[105, 110, 116] } 0 []) l = l := by simp [varsM, varsMs]
theorem varsM_bool (l : List Nat) : varsM (.mk { data := #[98, 111, 111, 108] } 0 []) l = l := by simp [varsM, varsMs]
theorem varsM_list (a : Ty) (l : List Nat) : varsM (.mk { data := #[108, 105, 115, 116] } 0 [a]) l = varsM a l := by simp [varsM, varsMs]
theorem varsM_pair (a b : Ty) (l : List Nat) : varsM (.mk { data := #[112, 97, 105, 114] } 0 [a, b]) l = varsM b (varsM a l) := by simp [varsM, varsMs]
theorem varsM_fn (a b : Ty) (l : List Nat) : varsM (.mk { data := #[102, 117, 110] } 0 [a, b]) l = varsM b (varsM a l) := by simp [varsM, varsMs]
/-- names for variables: each by the next letter, at its number. -/
def cnA (ns : List Nat) (m : Nat) : Nat → List ByteArray
  | 0 => List.replicate m { data := #[] }
  | q + 1 => (cnA ns m q).set (ns.getD q 0) (letM q)
def cnN (ns : List Nat) : List ByteArray := cnA ns (mxL ns) ns.length
theorem cnA_len (ns : List Nat) (m q : Nat) : (cnA ns m q).length = m := by
  induction q with
  | zero => simp [cnA]
  | succ q ih => simp [cnA, ih]
def canT (t : Ty) : ByteArray := shT (cnN (varsM t [])) t

end Go.Proofs.YtleenphlgbklmabGreatDoor
