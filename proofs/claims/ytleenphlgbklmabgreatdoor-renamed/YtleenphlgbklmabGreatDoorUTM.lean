import Derived.Test.YtleenphlgbklmabGreatDoorUGrow
import Derived.Shelf.Lay
import Derived.Shelf.Strconv.Clone
import Derived.Ground.NamesProg
import Derived.Test.YtleenphlgbklmabGreatDoorUPMap
import Derived.Test.YtleenphlgbklmabGreatDoorUPTy
import Derived.Test.YtleenphlgbklmabGreatDoorUTyMirror
set_option linter.unusedVariables false
set_option linter.unusedSimpArgs false
namespace Go.Proofs.YtleenphlgbklmabGreatDoor
open Go.RowKit

shelf_lay LaysM.n316 Nm 316 at Tryz as Tryz.laysM316
set_option maxRecDepth 20000 in
theorem sclone_any (s : ByteArray) (w : World) (hs : s.size ≤ 1000000) : Calls Tryz.prog 89 #[.string s] w fun e w' => e = .returned (.string s) ∧ Below w.heap.size w w' := by
  have HC : Hid (Calls Tryz.prog 130 #[.string s] w fun e w' => e = .returned (.string s) ∧ Below w.heap.size w w') := Any.stringslite_Clone Tryz.laysM316 s w (by omega)
  go_enter Tryz.func89, Tryz.ntmps89
  go_wp2_with fail
  refine Calls.mono HC.out ?_
  rintro e w1 ⟨rfl, hb⟩
  go_wp2
  go_ret
  exact ⟨rfl, hb⟩
end Go.Proofs.YtleenphlgbklmabGreatDoor

namespace Go.Proofs.YtleenphlgbklmabGreatDoor
open Go.RowKit

set_option maxRecDepth 20000 in
set_option maxHeartbeats 1000000 in
theorem bind_old (w : World) (mb : Nat) (kv : List (ByteArray × ByteArray)) (nm x : ByteArray) (h : SM w mb kv) (j : Nat) (hj : kv.findIdx? (fun y => sameS y.1 nm) = some j) :
    Calls Tryz.prog 65 #[.map (some mb), .string nm, .string x] w fun e w' => e = .returned (.bool (sameS (kAt kv j).2 x)) ∧ Kp (fun _ => False) w w' := by
  have hl := run_tlook 99 Tryz.underlying99 w mb kv nm h
  rw [hj] at hl
  simp only at hl
  have hk1 : Kp (fun _ => False) w (w.alloc (.cells #[.string (kAt kv j).2] 68)) := (Kp.refl _ w).alloc _
  have HK : Hid _ := hk1
  clear h hj hk1
  go_enter Tryz.func65, Tryz.ntmps65
  go_wp2
  go_ret
  exact ⟨by simp [sameS, ByteArray.toList_eq], HK.out⟩
set_option maxRecDepth 20000 in
set_option maxHeartbeats 1000000 in
theorem bind_new (w : World) (mb : Nat) (kv : List (ByteArray × ByteArray)) (nm x : ByteArray) (h : SM w mb kv) (hj : kv.findIdx? (fun y => sameS y.1 nm) = none) (hs : nm.size ≤ 1000000) :
    Calls Tryz.prog 65 #[.map (some mb), .string nm, .string x] w fun e w' => e = .returned (.bool true) ∧ SM w' mb (kv ++ [(nm, x)]) ∧ Kp (· = mb) w w' := by
  have hl := run_tlook 99 Tryz.underlying99 w mb kv nm h
  rw [hj] at hl
  simp only at hl
  have HJ : Hid _ := hj
  have HS : Hid _ := h
  have HC : Hid (∀ w, Calls Tryz.prog 89 #[.string nm] w fun e w' => e = .returned (.string nm) ∧ Below w.heap.size w w') := fun w => sclone_any nm w hs
  clear h hj
  go_enter Tryz.func65, Tryz.ntmps65
  go_wp2_with fail
  refine Calls.mono (HC.out _) ?_
  rintro e w1 ⟨rfl, hb⟩
  have hk1 : Kp (fun _ => False) w w1 := by
    have hkA : Kp (fun _ => False) w (w.alloc (.cells #[.string { data := #[] }] 68)) := (Kp.refl _ w).alloc _
    exact ⟨hb.os.trans hkA.os, hb.tape.trans hkA.tape, hb.output.trans hkA.output, Nat.le_trans hkA.size hb.size, fun q hq z => (hb.block q (Nat.lt_of_lt_of_le hq hkA.size)).trans (hkA.block q hq z)⟩
  have hS1 := HS.out.kp hk1 (fun z => z)
  have hu := run_tput 99 Tryz.underlying99 w1 mb kv nm x hS1 HJ.out
  have HP : Hid _ := hS1.put nm x HJ.out
  have HK : Hid (Kp (· = mb) w (mapSet w1 mb (.map (tEs (kv ++ [(nm, x)])) (kv.length + 1)))) := (hk1.mono (fun _ _ z => z.elim)).trans (mapSet_kp _ _ _)
  clear hS1 hk1 hb HC HS HJ hl
  go_wp2
  go_ret
  exact ⟨rfl, HP.out, HK.out⟩
end Go.Proofs.YtleenphlgbklmabGreatDoor

namespace Go.Proofs.YtleenphlgbklmabGreatDoor
open Go.RowKit

/-- what a type is made of: a variable, a list, a pair, a function. -/
inductive Kd where
  | vr | ls | pr | ar
/-- a type, as it stands in another: int, bool, or a node of the store. -/
inductive TR where
  | int | bool | nd (k : Kd) (i : Nat)
inductive NK where
  | vr (nm : ByteArray) (g : Bool) | ls (x : TR) | pr (x y : TR) | ar (x y : TR)
/-- a node: what it is made of, and what it was found to be. -/
structure Nd where
  k : NK
  s : Option TR
abbrev St := List Nd
def NK.kd : NK → Kd
  | .vr _ _ => .vr
  | .ls _ => .ls
  | .pr _ _ => .pr
  | .ar _ _ => .ar
def Kd.eqb : Kd → Kd → Bool
  | .vr, .vr => true
  | .ls, .ls => true
  | .pr, .pr => true
  | .ar, .ar => true
  | _, _ => false
def TR.eqb : TR → TR → Bool
  | .int, .int => true
  | .bool, .bool => true
  | .nd k i, .nd l j => k.eqb l && i == j
  | _, _ => false
theorem Kd.eqb_iff {a b : Kd} : a.eqb b = true ↔ a = b := by cases a <;> cases b <;> simp [Kd.eqb]
theorem TR.eqb_iff {a b : TR} : a.eqb b = true ↔ a = b := by cases a <;> cases b <;> simp [TR.eqb, Kd.eqb_iff]
theorem TR.eqb_ff {a b : TR} : a.eqb b = false ↔ a ≠ b := by
  rw [← Bool.not_eq_true, TR.eqb_iff]

/-- what a type was found to be. -/
inductive Rp (σ : St) : TR → TR → Prop
  | int : Rp σ .int .int
  | bool : Rp σ .bool .bool
  | root (i : Nat) (nk : NK) : σ[i]? = some ⟨nk, none⟩ → Rp σ (.nd nk.kd i) (.nd nk.kd i)
  | step (i : Nat) (nk : NK) (r r0 : TR) : σ[i]? = some ⟨nk, some r⟩ → Rp σ r r0 → Rp σ (.nd nk.kd i) r0
theorem Rp.det {σ : St} {r a b : TR} (h : Rp σ r a) (g : Rp σ r b) : a = b := by
  induction h with
  | int => cases g; rfl
  | bool => cases g; rfl
  | root i nk h1 =>
    generalize hx : TR.nd nk.kd i = x at g
    cases g with
    | int => cases hx
    | bool => cases hx
    | root j mk h2 => rfl
    | step j mk r r0 h2 _ =>
      simp only [TR.nd.injEq] at hx
      rw [hx.2, h2] at h1
      simp at h1
  | step i nk r r0 h1 _ ih =>
    generalize hx : TR.nd nk.kd i = x at g
    cases g with
    | int => cases hx
    | bool => cases hx
    | root j mk h2 =>
      simp only [TR.nd.injEq] at hx
      rw [hx.2, h2] at h1
      simp at h1
    | step j mk r' r0' h2 h3 =>
      simp only [TR.nd.injEq] at hx
      rw [hx.2, h2] at h1
      simp at h1
      rw [h1.2] at h3
      exact ih h3
theorem Rp.root_of {σ : St} {r r0 : TR} (h : Rp σ r r0) : Rp σ r0 r0 := by
  induction h with
  | int => exact .int
  | bool => exact .bool
  | root i nk h => exact .root i nk h
  | step i nk r r0 _ _ ih => exact ih
theorem Rp.rt {σ : St} {r : TR} {k : Kd} {i : Nat} (h : Rp σ r (.nd k i)) : ∃ nk, nk.kd = k ∧ σ[i]? = some ⟨nk, none⟩ := by
  generalize hx : TR.nd k i = x at h
  induction h with
  | int => cases hx
  | bool => cases hx
  | root j nk h1 =>
    simp only [TR.nd.injEq] at hx
    rw [hx.1, hx.2]
    exact ⟨nk, rfl, h1⟩
  | step _ _ _ _ _ _ ih => exact ih hx

/-- the same store, but for how long the ways are to what was found. -/
structure Ev (σ τ : St) : Prop where
  len : τ.length = σ.length
  kk : ∀ (i : Nat) (nk : NK) (s : Option TR), σ[i]? = some ⟨nk, s⟩ → ∃ s' : Option TR, τ[i]? = some ⟨nk, s'⟩ ∧ s'.isSome = s.isSome
  rp : ∀ r r0, Rp σ r r0 → Rp τ r r0
theorem Ev.refl (σ : St) : Ev σ σ := ⟨rfl, fun _ _ s h => ⟨s, h, rfl⟩, fun _ _ h => h⟩
theorem Ev.trans {a b c : St} (h : Ev a b) (g : Ev b c) : Ev a c := ⟨g.len.trans h.len, fun i nk s q => by
    obtain ⟨s1, q1, e1⟩ := h.kk i nk s q
    obtain ⟨s2, q2, e2⟩ := g.kk i nk s1 q1
    exact ⟨s2, q2, e2.trans e1⟩, fun r r0 q => g.rp _ _ (h.rp _ _ q)⟩
theorem Ev.root {σ τ : St} (h : Ev σ τ) {i : Nat} {nk : NK} (q : σ[i]? = some ⟨nk, none⟩) : τ[i]? = some ⟨nk, none⟩ := by
  obtain ⟨s, h1, h2⟩ := h.kk i nk none q
  cases s with
  | none => exact h1
  | some _ => simp at h2
/-- a way is made short. -/
theorem Rp.short {τ : St} {i : Nat} {nk : NK} {r r0 : TR} (h : τ[i]? = some ⟨nk, some r⟩) (hr : Rp τ r r0) : Ev τ (τ.set i ⟨nk, some r0⟩) := by
  have hi := (List.getElem?_eq_some_iff.1 h).1
  have hroot : ∀ (j : Nat) (mk : NK), τ[j]? = some ⟨mk, none⟩ → (τ.set i ⟨nk, some r0⟩)[j]? = some ⟨mk, none⟩ := fun j mk hj => by
    rw [List.getElem?_set_ne (fun e => by rw [e, hj] at h; simp at h)]
    exact hj
  have hr0 : Rp (τ.set i ⟨nk, some r0⟩) r0 r0 := by
    cases r0 with
    | int => exact .int
    | bool => exact .bool
    | nd k j =>
      obtain ⟨mk, rfl, hj⟩ := hr.rt
      exact .root j mk (hroot j mk hj)
  refine ⟨by simp, ?_, ?_⟩
  · intro j mk s hj
    by_cases e : i = j
    · subst e
      rw [h] at hj
      simp at hj
      obtain ⟨rfl, rfl⟩ := hj
      exact ⟨some r0, by simp [hi], rfl⟩
    · exact ⟨s, by rw [List.getElem?_set_ne e]; exact hj, rfl⟩
  · intro a b hab
    induction hab with
    | int => exact .int
    | bool => exact .bool
    | root j mk hj => exact .root j mk (hroot j mk hj)
    | step j mk a b hj hab ih =>
      by_cases e : i = j
      · subst e
        rw [h] at hj
        simp at hj
        obtain ⟨rfl, rfl⟩ := hj
        rw [hab.det hr]
        exact .step i nk r0 r0 (by simp [hi]) hr0
      · exact .step j mk a b (by rw [List.getElem?_set_ne e]; exact hj) ih
theorem get_snoc {σ : St} {n : Nd} {i : Nat} {x : Nd} (h : σ[i]? = some x) : (σ ++ [n])[i]? = some x := by
  rw [List.getElem?_append_left (List.getElem?_eq_some_iff.1 h).1]
  exact h
theorem Rp.up {σ : St} {r r0 : TR} (h : Rp σ r r0) (u : St) : Rp (σ ++ u) r r0 := by
  have g : ∀ (i : Nat) (x : Nd), σ[i]? = some x → (σ ++ u)[i]? = some x := fun i x h => by
    rw [List.getElem?_append_left (List.getElem?_eq_some_iff.1 h).1]
    exact h
  induction h with
  | int => exact .int
  | bool => exact .bool
  | root i nk h1 => exact .root i nk (g _ _ h1)
  | step i nk r r0 h1 _ ih => exact .step i nk r r0 (g _ _ h1) ih
end Go.Proofs.YtleenphlgbklmabGreatDoor
