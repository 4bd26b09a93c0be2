import Derived.Deep.RegionWith
import Derived.Test.YtleenphlgbklmaaGreatDoorVWParsed
import Derived.Test.YtleenphlgbklmaaGreatDoorVMid
import Derived.Deep.DeepCutAuto
import Derived.Deep.LoopGhost
set_option linter.unusedVariables false
set_option linter.unusedSimpArgs false
namespace Go.Proofs.YtleenphlgbklmaaGreatDoor
open Go.RowKit

def Ty.kind : Ty → ByteArray | .mk k _ _ => k
def brkT (b : Bool) (a : ByteArray) : ByteArray := if b then { data := #[40] } ++ a ++ { data := #[41] } else a
mutual
def shT (names : List ByteArray) : Ty → ByteArray
  | .mk kd n kids =>
    if kd.data.toList == [] then names.getD n { data := #[] }
    else if kd.data.toList == ({ data := #[108, 105, 115, 116] } : ByteArray).data.toList then { data := #[91] } ++ (shTs names kids).getD 0 { data := #[] } ++ { data := #[93] }
    else if kd.data.toList == ({ data := #[112, 97, 105, 114] } : ByteArray).data.toList then { data := #[40] } ++ (shTs names kids).getD 0 { data := #[] } ++ { data := #[44, 32] } ++ (shTs names kids).getD 1 { data := #[] } ++ { data := #[41] }
    else if kd.data.toList == ({ data := #[102, 117, 110] } : ByteArray).data.toList then brkT ((kids.getD 0 Ty.no).kind.data.toList == ({ data := #[102, 117, 110] } : ByteArray).data.toList) ((shTs names kids).getD 0 { data := #[] }) ++ { data := #[32, 45, 62, 32] } ++ (shTs names kids).getD 1 { data := #[] }
    else kd
def shTs (names : List ByteArray) : List Ty → List ByteArray
  | [] => []
  | t :: ts => shT names t :: shTs names ts
end
section
variable (names : List ByteArray) (a b : Ty)
theorem shT_var (n : Nat) : shT names (.mk { data := #[] } n []) = names.getD n { data := #[] } := by simp [shT]
theorem shT_int : shT names (.mk { data := #[105, 110, 116] } 0 []) = { data := #[105, 110, 116] } := by simp [shT]
theorem shT_bool : shT names (.mk { data := #[98, 111, 111, 108] } 0 []) = { data := #[98, 111, 111, 108] } := by simp [shT]
theorem shT_list : shT names (.mk { data := #[108, 105, 115, 116] } 0 [a]) = { data := #[91] } ++ shT names a ++ { data := #[93] } := by simp [shT, shTs]
theorem shT_pair : shT names (.mk { data := #[112, 97, 105, 114] } 0 [a, b]) = { data := #[40] } ++ shT names a ++ { data := #[44, 32] } ++ shT names b ++ { data := #[41] } := by simp [shT, shTs]
theorem shT_fn : shT names (.mk { data := #[102, 117, 110] } 0 [a, b]) = brkT (a.kind.data.toList == ({ data := #[102, 117, 110] } : ByteArray).data.toList) (shT names a) ++ { data := #[32, 45, 62, 32] } ++ shT names b := by simp [shT, shTs]
end
theorem brkT_size (b : Bool) (a : ByteArray) : (brkT b a).size ≤ a.size + 2 := by
  unfold brkT
  split
  · simp only [ByteArray.size_append]
    have h1 : ({ data := #[40] } : ByteArray).size = 1 := rfl
    have h2 : ({ data := #[41] } : ByteArray).size = 1 := rfl
    omega
  · omega
/-- Shown answers that text, from whatever world in which the type and the names lie. -/
def SShown (names : List ByteArray) (x : Ty) : Prop := ∀ (w : World) (v nv : Value) (B : Nat), TRep w x v → w.ownsRow B 9 1 nv names.length (names.map Value.string) → sz x ≤ 900 →
  Calls Tryz.prog 23 #[v, nv] w fun e w' => e = .returned (.string (shT names x)) ∧ ∃ n, w' = w.drewN n
theorem SShown.at {names : List ByteArray} {x : Ty} (h : SShown names x) {w : World} {v nv : Value} {B : Nat} (hr : TRep w x v) (hn : w.ownsRow B 9 1 nv names.length (names.map Value.string)) (ht : sz x ≤ 900) (n : Nat) : Calls Tryz.prog 23 #[v, nv] (w.drewN n) fun e w' => e = .returned (.string (shT names x)) ∧ ∃ m, w' = (w.drewN n).drewN m :=
  h (w.drewN n) v nv B (TRep.keep (TKeep.drewN _ _) x hr) (ownsRow_same hn (fun _ _ => rfl)) ht
theorem TRep.kd {w : World} : ∀ {t : Ty} {p : Value}, TRep w t p → ∃ b, p = .pointer (some ⟨b, 0, none⟩) ∧ w.cell? ⟨b, 0, none⟩ = some (.string t.kind)
  | .mk kd n kids, p, h => by
    simp only [TRep] at h
    obtain ⟨b, lv, ps, h1, h2, _⟩ := h
    exact ⟨b, h1, by simp [World.cell?, h2, Ty.kind]⟩

end Go.Proofs.YtleenphlgbklmaaGreatDoor

namespace Go.Proofs.YtleenphlgbklmaaGreatDoor
open Go.RowKit

def inB (ns : List Nat) (n : Nat) : Bool := ns.contains n
mutual
def varsM : Ty → List Nat → List Nat
  | .mk kd n kids, l => if kd.data.toList == [] then (if inB l n then l else l ++ [n]) else varsMs kids l
def varsMs : List Ty → List Nat → List Nat
  | [], l => l
  | t :: ts, l => varsMs ts (varsM t l)
end
mutual
theorem varsM_len : ∀ (t : Ty) (l : List Nat), l.length ≤ (varsM t l).length ∧ (varsM t l).length ≤ l.length + sz t
  | .mk kd n kids, l => by
    have := varsMs_len kids l
    simp only [varsM, sz]
    split
    · split <;> simp <;> omega
    · omega
theorem varsMs_len : ∀ (ts : List Ty) (l : List Nat), l.length ≤ (varsMs ts l).length ∧ (varsMs ts l).length ≤ l.length + szs ts
  | [], l => by simp [varsMs, szs]
  | t :: ts, l => by
    have h1 := varsM_len t l
    have h2 := varsMs_len ts (varsM t l)
    simp only [varsMs, szs]
    omega
end
end Go.Proofs.YtleenphlgbklmaaGreatDoor

namespace Go.Proofs.YtleenphlgbklmaaGreatDoor
open Go.RowKit

def bytesN (l : List Nat) : ByteArray := ⟨(l.map (fun n => UInt8.ofNat n)).toArray⟩
def letM (n : Nat) : ByteArray := if n < 26 then bytesN [97 + n] else bytesN [97 + n % 26] ++ bytesN [48 + n / 26]
theorem letM_size (n : Nat) : (letM n).size ≤ 2 := by
  unfold letM
  split
  · have : (bytesN [97 + n]).size = 1 := rfl
    omega
  · have h1 : (bytesN [97 + n % 26]).size = 1 := rfl
    have h2 : (bytesN [48 + n / 26]).size = 1 := rfl
    rw [ByteArray.size_append]
    omega
end Go.Proofs.YtleenphlgbklmaaGreatDoor

namespace Go.Proofs.YtleenphlgbklmaaGreatDoor
open Go.RowKit

def mxL (ns : List Nat) : Nat := ns.foldl (fun m v => if m ≤ v then v + 1 else m) 0
theorem mx_mono (ns : List Nat) (a : Nat) : a ≤ ns.foldl (fun m v => if m ≤ v then v + 1 else m) a := by
  induction ns generalizing a with
  | nil => exact Nat.le_refl _
  | cons v ns ih =>
    simp only [List.foldl_cons]
    refine Nat.le_trans ?_ (ih _)
    split <;> omega
theorem mx_mem (ns : List Nat) (a v : Nat) (h : v ∈ ns) : v < ns.foldl (fun m v => if m ≤ v then v + 1 else m) a := by
  induction ns generalizing a with
  | nil => cases h
  | cons u ns ih =>
    simp only [List.foldl_cons]
    rcases List.mem_cons.1 h with rfl | h
    · refine Nat.lt_of_lt_of_le ?_ (mx_mono ns _)
      split <;> omega
    · exact ih _ h
theorem mxL_mem {ns : List Nat} {v : Nat} (h : v ∈ ns) : v < mxL ns := mx_mem ns 0 v h
theorem varsM_leaf (n : Nat) (l : List Nat) : varsM (.mk { data := #[] } n []) l = if inB l n then l else l ++ [n] := by simp [varsM]
theorem varsM_int (l : List Nat) : varsM (.mk { data := #[105, 110, 116] } 0 []) l = l := by simp [varsM, varsMs]
theorem varsM_bool (l : List Nat) : varsM (.mk { data := #[98, 111, 111, 108] } 0 []) l = l := by simp [varsM, varsMs]
theorem varsM_list (a : Ty) (l : List Nat) : varsM (.mk { data := #[108, 105, 115, 116] } 0 [a]) l = varsM a l := by simp [varsM, varsMs]
theorem varsM_pair (a b : Ty) (l : List Nat) : varsM (.mk { data := #[112, 97, 105, 114] } 0 [a, b]) l = varsM b (varsM a l) := by simp [varsM, varsMs]
theorem varsM_fn (a b : Ty) (l : List Nat) : varsM (.mk { data := #[102, 117, 110] } 0 [a, b]) l = varsM b (varsM a l) := by simp [varsM, varsMs]
theorem varsM_sup {m : Nat} {t : Ty} (h : WT m t) : ∀ l v, v ∈ l → v ∈ varsM t l := by
  induction h with
  | var n hn => intro l v hv; rw [varsM_leaf]; split <;> simp [hv]
  | int => intro l v hv; rw [varsM_int]; exact hv
  | bool => intro l v hv; rw [varsM_bool]; exact hv
  | list a _ ih => intro l v hv; rw [varsM_list]; exact ih l v hv
  | pair a b _ _ ih ih2 => intro l v hv; rw [varsM_pair]; exact ih2 _ v (ih l v hv)
  | fn a b _ _ ih ih2 => intro l v hv; rw [varsM_fn]; exact ih2 _ v (ih l v hv)
theorem WT.vars {m M : Nat} {t : Ty} (h : WT m t) : ∀ l, (∀ v, v ∈ varsM t l → v < M) → WT M t := by
  induction h with
  | var n hn =>
    intro l hl
    refine .var n (hl n ?_)
    rw [varsM_leaf]
    split
    · rename_i e
      exact List.contains_iff_mem.1 e
    · simp
  | int => intro l hl; exact .int
  | bool => intro l hl; exact .bool
  | list a _ ih => intro l hl; rw [varsM_list] at hl; exact .list a (ih l hl)
  | pair a b _ hb ih ih2 => intro l hl; rw [varsM_pair] at hl; exact .pair a b (ih l (fun v hv => hl v (varsM_sup hb _ v hv))) (ih2 _ hl)
  | fn a b _ hb ih ih2 => intro l hl; rw [varsM_fn] at hl; exact .fn a b (ih l (fun v hv => hl v (varsM_sup hb _ v hv))) (ih2 _ hl)

/-- names for variables: each by the next letter, at its number. -/
def cnA (ns : List Nat) (m : Nat) : Nat → List ByteArray
  | 0 => List.replicate m { data := #[] }
  | q + 1 => (cnA ns m q).set (ns.getD q 0) (letM q)
def cnN (ns : List Nat) : List ByteArray := cnA ns (mxL ns) ns.length
theorem cnA_len (ns : List Nat) (m q : Nat) : (cnA ns m q).length = m := by
  induction q with
  | zero => simp [cnA]
  | succ q ih => simp [cnA, ih]
def canT (t : Ty) : ByteArray := shT (cnN (varsM t [])) t

end Go.Proofs.YtleenphlgbklmaaGreatDoor
