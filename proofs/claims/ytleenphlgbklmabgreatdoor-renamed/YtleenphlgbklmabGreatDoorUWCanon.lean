import Derived.Test.YtleenphlgbklmabGreatDoorUTGood
import Derived.Deep.DeepCutAuto
import Derived.Deep.LoopGhost
import Derived.Test.YtleenphlgbklmabGreatDoorUWShown
set_option linter.unusedVariables false
set_option linter.unusedSimpArgs false
namespace Go.Proofs.YtleenphlgbklmabGreatDoor
open Go.RowKit

def intV (n : Nat) : Value := .int .i64 n
def inB (ns : List Nat) (n : Nat) : Bool := ns.contains n
mutual
def varsM : Ty → List Nat → List Nat
  | .mk kd n kids, l => if kd.data.toList == [] then (if inB l n then l else l ++ [n]) else varsMs kids l
def varsMs : List Ty → List Nat → List Nat
  | [], l => l
  | t :: ts, l => varsMs ts (varsM t l)
end
theorem varsMs_append (ts : List Ty) (t : Ty) (l : List Nat) : varsMs (ts ++ [t]) l = varsM t (varsMs ts l) := by
  induction ts generalizing l with
  | nil => simp [varsMs]
  | cons x xs ih => simp only [List.cons_append, varsMs, ih]
mutual
theorem varsM_len : ∀ (t : Ty) (l : List Nat), l.length ≤ (varsM t l).length ∧ (varsM t l).length ≤ l.length + sz t
  | .mk kd n kids, l => by
    have := varsMs_len kids l
    simp only [varsM, sz]
    split
    · split <;> simp <;> omega
    · omega
theorem varsMs_len : ∀ (ts : List Ty) (l : List Nat), l.length ≤ (varsMs ts l).length ∧ (varsMs ts l).length ≤ l.length + szs ts
  | [], l => by simp [varsMs, szs]
  | t :: ts, l => by
    have h1 := varsM_len t l
    have h2 := varsMs_len ts (varsM t l)
    simp only [varsMs, szs]
    omega
end
theorem Tryz.info3 : (Tryz.prog.info? 3).map (fun i => (i.zero, i.size, i.bytes)) = some (some (.int .i64 0), 1, 8) := by kernel_rfl

end Go.Proofs.YtleenphlgbklmabGreatDoor

namespace Go.Proofs.YtleenphlgbklmabGreatDoor
open Go.RowKit

def bytesN (l : List Nat) : ByteArray := ⟨(l.map (fun n => UInt8.ofNat n)).toArray⟩
theorem conv1 (w : World) (z : Int) (h0 : 0 ≤ z) (h1 : z < 256) : (convert 41 9 (.slice (some ⟨w.heap.size, 0, none⟩) 1 1)).run Tryz.prog (w.alloc (.cells #[.int .u8 z] 5)) = .ok (.string (bytesN [z.toNat])) (w.alloc (.cells #[.int .u8 z] 5)) := by
  have hb : (w.alloc (.cells #[.int .u8 z] 5)).heap[w.heap.size]? = some (.cells #[.int .u8 z] 5 (0, 0)) := heap_alloc_new _ _
  have := run_convert_bytes_back (P := Tryz.prog) (w.alloc (.cells #[.int .u8 z] 5)) 41 9 5 ⟨w.heap.size, 0, none⟩ 1 [UInt8.ofNat z.toNat] Tryz.underlying41 Tryz.underlying5 Tryz.underlying9 (fun j hj => by
    have hj : j = 0 := by simpa using hj
    subst hj
    have e1 : (((UInt8.ofNat z.toNat).toNat : Nat) : Int) = z := by
      rw [UInt8.toNat_ofNat']
      omega
    have hcc : (w.alloc (.cells #[.int .u8 z] 5)).cell? ⟨w.heap.size, 0, none⟩ = some (.int .u8 z) := by unfold World.cell?; rw [hb]; rfl
    show (w.alloc (.cells #[.int .u8 z] 5)).cell? ⟨w.heap.size, 0, none⟩ = some (.int .u8 ((UInt8.ofNat z.toNat).toNat : Int))
    rw [e1]
    exact hcc)
  simpa [bytesN] using this
def letM (n : Nat) : ByteArray := if n < 26 then bytesN [97 + n] else bytesN [97 + n % 26] ++ bytesN [48 + n / 26]
theorem letM_size (n : Nat) : (letM n).size ≤ 2 := by
  unfold letM
  split
  · have : (bytesN [97 + n]).size = 1 := rfl
    omega
  · have h1 : (bytesN [97 + n % 26]).size = 1 := rfl
    have h2 : (bytesN [48 + n / 26]).size = 1 := rfl
    rw [ByteArray.size_append]
    omega
end Go.Proofs.YtleenphlgbklmabGreatDoor

namespace Go.Proofs.YtleenphlgbklmabGreatDoor
open Go.RowKit

def mxL (ns : List Nat) : Nat := ns.foldl (fun m v => if m ≤ v then v + 1 else m) 0
theorem mxL_snoc (ns : List Nat) (v : Nat) : mxL (ns ++ [v]) = if mxL ns ≤ v then v + 1 else mxL ns := by unfold mxL; rw [List.foldl_append]; rfl
theorem mx_mono (ns : List Nat) (a : Nat) : a ≤ ns.foldl (fun m v => if m ≤ v then v + 1 else m) a := by
  induction ns generalizing a with
  | nil => exact Nat.le_refl _
  | cons v ns ih =>
    simp only [List.foldl_cons]
    refine Nat.le_trans ?_ (ih _)
    split <;> omega
theorem mx_mem (ns : List Nat) (a v : Nat) (h : v ∈ ns) : v < ns.foldl (fun m v => if m ≤ v then v + 1 else m) a := by
  induction ns generalizing a with
  | nil => cases h
  | cons u ns ih =>
    simp only [List.foldl_cons]
    rcases List.mem_cons.1 h with rfl | h
    · refine Nat.lt_of_lt_of_le ?_ (mx_mono ns _)
      split <;> omega
    · exact ih _ h
theorem mxL_mem {ns : List Nat} {v : Nat} (h : v ∈ ns) : v < mxL ns := mx_mem ns 0 v h
theorem mx_le (ns : List Nat) (a m : Nat) (ha : a ≤ m) (h : ∀ v, v ∈ ns → v < m) : ns.foldl (fun m v => if m ≤ v then v + 1 else m) a ≤ m := by
  induction ns generalizing a with
  | nil => exact ha
  | cons u ns ih =>
    simp only [List.foldl_cons]
    refine ih _ ?_ (fun v hv => h v (by simp [hv]))
    have := h u (by simp)
    split <;> omega
theorem mxL_le {ns : List Nat} {m : Nat} (h : ∀ v, v ∈ ns → v < m) : mxL ns ≤ m := mx_le ns 0 m (Nat.zero_le _) h

theorem varsM_leaf (n : Nat) (l : List Nat) : varsM (.mk { data := #[] } n []) l = if inB l n then l else l ++ [n] := by simp [varsM]
theorem varsM_int (l : List Nat) : varsM (.mk { data := #[105, 110, 116] } 0 []) l = l := by simp [varsM, varsMs]
theorem varsM_bool (l : List Nat) : varsM (.mk { data := #[98, 111, 111, 108] } 0 []) l = l := by simp [varsM, varsMs]
theorem varsM_list (a : Ty) (l : List Nat) : varsM (.mk { data := #[108, 105, 115, 116] } 0 [a]) l = varsM a l := by simp [varsM, varsMs]
theorem varsM_pair (a b : Ty) (l : List Nat) : varsM (.mk { data := #[112, 97, 105, 114] } 0 [a, b]) l = varsM b (varsM a l) := by simp [varsM, varsMs]
theorem varsM_fn (a b : Ty) (l : List Nat) : varsM (.mk { data := #[102, 117, 110] } 0 [a, b]) l = varsM b (varsM a l) := by simp [varsM, varsMs]
theorem varsM_sup {m : Nat} {t : Ty} (h : WT m t) : ∀ l v, v ∈ l → v ∈ varsM t l := by
  induction h with
  | var n hn => intro l v hv; rw [varsM_leaf]; split <;> simp [hv]
  | int => intro l v hv; rw [varsM_int]; exact hv
  | bool => intro l v hv; rw [varsM_bool]; exact hv
  | list a _ ih => intro l v hv; rw [varsM_list]; exact ih l v hv
  | pair a b _ _ ih ih2 => intro l v hv; rw [varsM_pair]; exact ih2 _ v (ih l v hv)
  | fn a b _ _ ih ih2 => intro l v hv; rw [varsM_fn]; exact ih2 _ v (ih l v hv)
theorem varsM_lt {m : Nat} {t : Ty} (h : WT m t) : ∀ l, (∀ v, v ∈ l → v < m) → ∀ v, v ∈ varsM t l → v < m := by
  induction h with
  | var n hn => intro l hl v hv; rw [varsM_leaf] at hv; split at hv; exact hl v hv; simp at hv; rcases hv with hv | rfl; exact hl v hv; exact hn
  | int => intro l hl v hv; rw [varsM_int] at hv; exact hl v hv
  | bool => intro l hl v hv; rw [varsM_bool] at hv; exact hl v hv
  | list a _ ih => intro l hl v hv; rw [varsM_list] at hv; exact ih l hl v hv
  | pair a b _ _ ih ih2 => intro l hl v hv; rw [varsM_pair] at hv; exact ih2 _ (ih l hl) v hv
  | fn a b _ _ ih ih2 => intro l hl v hv; rw [varsM_fn] at hv; exact ih2 _ (ih l hl) v hv
theorem WT.vars {m M : Nat} {t : Ty} (h : WT m t) : ∀ l, (∀ v, v ∈ varsM t l → v < M) → WT M t := by
  induction h with
  | var n hn =>
    intro l hl
    refine .var n (hl n ?_)
    rw [varsM_leaf]
    split
    · rename_i e
      exact List.contains_iff_mem.1 e
    · simp
  | int => intro l hl; exact .int
  | bool => intro l hl; exact .bool
  | list a _ ih => intro l hl; rw [varsM_list] at hl; exact .list a (ih l hl)
  | pair a b _ hb ih ih2 => intro l hl; rw [varsM_pair] at hl; exact .pair a b (ih l (fun v hv => hl v (varsM_sup hb _ v hv))) (ih2 _ hl)
  | fn a b _ hb ih ih2 => intro l hl; rw [varsM_fn] at hl; exact .fn a b (ih l (fun v hv => hl v (varsM_sup hb _ v hv))) (ih2 _ hl)

/-- names for variables: each by the next letter, at its number. -/
def cnA (ns : List Nat) (m : Nat) : Nat → List ByteArray
  | 0 => List.replicate m { data := #[] }
  | q + 1 => (cnA ns m q).set (ns.getD q 0) (letM q)
def cnN (ns : List Nat) : List ByteArray := cnA ns (mxL ns) ns.length
theorem cnA_len (ns : List Nat) (m q : Nat) : (cnA ns m q).length = m := by
  induction q with
  | zero => simp [cnA]
  | succ q ih => simp [cnA, ih]
theorem cnA_size (ns : List Nat) (m q : Nat) : ∀ x, x ∈ cnA ns m q → x.size ≤ 1000 := by
  induction q with
  | zero =>
    intro x hx
    simp [cnA] at hx
    rw [hx.2]
    decide
  | succ q ih =>
    intro x hx
    rcases List.mem_or_eq_of_mem_set hx with h | h
    · exact ih x h
    · rw [h]; have := letM_size q; omega
theorem made_str (ns : List Nat) (M : Nat) : (madeCells #[Value.string { data := #[] }] M).toList = (cnA ns M 0).map Value.string := by
  simp only [madeCells, cnA, Array.toList_map, Array.toList_range, List.map_replicate]
  apply List.ext_getElem
  · simp
  · intro i h1 h2
    simp [Nat.mod_one]
def canT (t : Ty) : ByteArray := shT (cnN (varsM t [])) t

end Go.Proofs.YtleenphlgbklmabGreatDoor
