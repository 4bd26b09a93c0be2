import Derived.Test.YtleenphlgbklmabGreatDoorUWEq
import Derived.Test.YtleenphlgbklmabGreatDoorUWShown
import Derived.Deep.RegionHeld3
set_option linter.unusedVariables false
set_option linter.unusedSimpArgs false
namespace Go.Proofs.YtleenphlgbklmabGreatDoor
open Go.RowKit

mutual
def matM : Ty → Ty → List (Option Ty) → List (Option Ty) × Bool
  | .mk kd n kids, .mk kd' n' kids', gs =>
    if kd.data.toList == [] then
      match gs.getD n none with
      | some t => (gs, eqM t (.mk kd' n' kids'))
      | none => (gs.set n (some (.mk kd' n' kids')), true)
    else if kd.data.toList == kd'.data.toList then matMs kids kids' gs
    else (gs, false)
def matMs : List Ty → List Ty → List (Option Ty) → List (Option Ty) × Bool
  | [], _, gs => (gs, true)
  | _ :: _, [], gs => (gs, true)
  | t :: ts, u :: us, gs => if (matM t u gs).2 then matMs ts us (matM t u gs).1 else (gs, false)
end
mutual
theorem matM_len : ∀ (a b : Ty) (gs : List (Option Ty)), (matM a b gs).1.length = gs.length
  | .mk kd n kids, .mk kd' n' kids', gs => by
    simp only [matM]
    split
    · split <;> simp
    · split
      · exact matMs_len kids kids' gs
      · rfl
theorem matMs_len : ∀ (ts us : List Ty) (gs : List (Option Ty)), (matMs ts us gs).1.length = gs.length
  | [], _, gs => by simp [matMs]
  | _ :: _, [], gs => by simp [matMs]
  | t :: ts, u :: us, gs => by
    simp only [matMs]
    split
    · rw [matMs_len ts us, matM_len t u]
    · rfl
end
/-- the first q parts go. -/
theorem matMs_take (ts us : List Ty) (gs : List (Option Ty)) (q : Nat) (h1 : q < ts.length) (h2 : q < us.length) (h : (matMs (ts.take q) (us.take q) gs).2 = true) :
    matMs (ts.take (q + 1)) (us.take (q + 1)) gs = if (matM (ts.getD q Ty.no) (us.getD q Ty.no) (matMs (ts.take q) (us.take q) gs).1).2 then ((matM (ts.getD q Ty.no) (us.getD q Ty.no) (matMs (ts.take q) (us.take q) gs).1).1, true) else ((matMs (ts.take q) (us.take q) gs).1, false) := by
  induction ts generalizing us gs q with
  | nil => simp at h1
  | cons t ts ih =>
    cases us with
    | nil => simp at h2
    | cons u us =>
      cases q with
      | zero =>
        simp only [List.take_succ_cons, List.take_zero, matMs, List.getD_cons_zero]
      | succ q =>
        simp only [List.take_succ_cons, matMs, List.getD_cons_succ] at h ⊢
        split
        · rename_i e
          rw [if_pos e] at h
          exact ih us _ q (by simpa using h1) (by simpa using h2) h
        · rename_i e
          rw [if_neg e] at h
          simp at h
theorem matMs_stop (ts us : List Ty) (gs : List (Option Ty)) (q : Nat) (h1 : q < ts.length) (h2 : q < us.length) (h : (matMs (ts.take q) (us.take q) gs).2 = true)
    (hf : (matM (ts.getD q Ty.no) (us.getD q Ty.no) (matMs (ts.take q) (us.take q) gs).1).2 = false) : matMs ts us gs = ((matMs (ts.take q) (us.take q) gs).1, false) := by
  induction ts generalizing us gs q with
  | nil => simp at h1
  | cons t ts ih =>
    cases us with
    | nil => simp at h2
    | cons u us =>
      cases q with
      | zero =>
        simp only [List.take_zero, matMs, List.getD_cons_zero] at hf ⊢
        rw [if_neg (by simp [hf])]
      | succ q =>
        simp only [List.take_succ_cons, matMs, List.getD_cons_succ] at h hf ⊢
        by_cases e : (matM t u gs).2 = true
        · rw [if_pos e] at h hf ⊢
          rw [if_pos e]
          exact ih us _ q (by simpa using h1) (by simpa using h2) h hf
        · rw [if_neg e] at h
          simp at h

theorem WT.arity {m m' : Nat} {kd : ByteArray} {n n' : Nat} {kids kids' : List Ty} (h : WT m (.mk kd n kids)) (h' : WT m' (.mk kd n' kids')) (hk : ¬ kd.data.toList = []) : kids.length = kids'.length := by
  cases h <;> cases h' <;> first | rfl | simp at hk
theorem WT.kids {m : Nat} {kd : ByteArray} {n : Nat} {kids : List Ty} (h : WT m (.mk kd n kids)) : ∀ y, y ∈ kids → WT m y := by
  cases h with
  | var n hn => intro y hy; cases hy
  | int => intro y hy; cases hy
  | bool => intro y hy; cases hy
  | list a ha => intro y hy; simp at hy; subst hy; exact ha
  | pair a b ha hb => intro y hy; simp at hy; rcases hy with rfl | rfl; exact ha; exact hb
  | fn a b ha hb => intro y hy; simp at hy; rcases hy with rfl | rfl; exact ha; exact hb
end Go.Proofs.YtleenphlgbklmabGreatDoor
