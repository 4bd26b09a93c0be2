import Derived.Deep.DeepCutAuto
import Derived.Deep.LoopGhost
import Derived.Test.YtleenphlgbklmaaGreatDoorVWParsed
import Derived.Deep.RegionHeld3
import Derived.Test.YtleenphlgbklmaaGreatDoorVWCanon
import Derived.Test.YtleenphlgbklmaaGreatDoorVPKw
import Derived.Test.YtleenphlgbklmaaGreatDoorVPCk
import Derived.Test.YtleenphlgbklmaaGreatDoorVPTyB
import Derived.Test.YtleenphlgbklmaaGreatDoorVTxO
set_option linter.unusedVariables false
set_option linter.unusedSimpArgs false
namespace Go.Proofs.YtleenphlgbklmaaGreatDoor
open Go.RowKit

mutual
def eqM : Ty → Ty → Bool
  | .mk k n l, .mk k' n' l' => (k.data.toList == k'.data.toList) && decide (n = n') && decide (l.length = l'.length) && eqMs l l'
def eqMs : List Ty → List Ty → Bool
  | [], _ => true
  | _ :: _, [] => true
  | t :: ts, u :: us => eqM t u && eqMs ts us
end
end Go.Proofs.YtleenphlgbklmaaGreatDoor

namespace Go.Proofs.YtleenphlgbklmaaGreatDoor
open Go.RowKit

mutual
def matM : Ty → Ty → List (Option Ty) → List (Option Ty) × Bool
  | .mk kd n kids, .mk kd' n' kids', gs =>
    if kd.data.toList == [] then
      match gs.getD n none with
      | some t => (gs, eqM t (.mk kd' n' kids'))
      | none => (gs.set n (some (.mk kd' n' kids')), true)
    else if kd.data.toList == kd'.data.toList then matMs kids kids' gs
    else (gs, false)
def matMs : List Ty → List Ty → List (Option Ty) → List (Option Ty) × Bool
  | [], _, gs => (gs, true)
  | _ :: _, [], gs => (gs, true)
  | t :: ts, u :: us, gs => if (matM t u gs).2 then matMs ts us (matM t u gs).1 else (gs, false)
end
def GOne (w : World) : Option Ty → Value → Prop
  | none, p => p = .pointer none
  | some t, p => TRep w t p
/-- what variables stand for, as a list of pointers. -/
def GRow (w : World) (gv : Value) (gs : List (Option Ty)) : Prop := ∃ ps, w.ownsRow 0 33 1 gv ps.length ps ∧ ps.length = gs.length ∧ ∀ i, i < gs.length → GOne w (gs.getD i none) (ps.getD i (.pointer none))
theorem GOne.keep {w w' : World} (hk : TKeep w w') : ∀ {g : Option Ty} {p : Value}, GOne w g p → GOne w' g p
  | none, p, h => h
  | some t, p, h => TRep.keep hk t h
theorem GRow.keep {w w' : World} (hk : TKeep w w') {gv : Value} {gs : List (Option Ty)} (h : GRow w gv gs) : GRow w' gv gs := by
  obtain ⟨ps, h1, h2, h3⟩ := h
  exact ⟨ps, ownsRow_tkeep h1 hk, h2, fun i hi => GOne.keep hk (h3 i hi)⟩
theorem TKeep.size {w w' : World} (h : ∀ k, k < w.heap.size → w'.heap[k]? = w.heap[k]?) : TKeep w w' := fun k cs e f _ hk => (h k (lt_of_block hk)).trans hk
theorem WT.kids {m : Nat} {kd : ByteArray} {n : Nat} {kids : List Ty} (h : WT m (.mk kd n kids)) : ∀ y, y ∈ kids → WT m y := by
  cases h with
  | var n hn => intro y hy; cases hy
  | int => intro y hy; cases hy
  | bool => intro y hy; cases hy
  | list a ha => intro y hy; simp at hy; subst hy; exact ha
  | pair a b ha hb => intro y hy; simp at hy; rcases hy with rfl | rfl; exact ha; exact hb
  | fn a b ha hb => intro y hy; simp at hy; rcases hy with rfl | rfl; exact ha; exact hb
end Go.Proofs.YtleenphlgbklmaaGreatDoor

namespace Go.Proofs.YtleenphlgbklmaaGreatDoor
open Go.RowKit

/-- what is known so far, in the program's map and in the document's list. -/
structure MG (names own : List ByteArray) (kv : List (ByteArray × ByteArray)) (gs : List (Option Ty)) : Prop where
  len : gs.length = names.length
  got : ∀ n t, gs.getD n none = some t → ∃ j, kv.findIdx? (fun y => sameS y.1 (names.getD n { data := #[] })) = some j ∧ (kAt kv j).2 = shT own t ∧ WT own.length t
  not : ∀ n, n < names.length → gs.getD n none = none → kv.findIdx? (fun y => sameS y.1 (names.getD n { data := #[] })) = none
  key : ∀ y, y ∈ kv → ∃ n, n < names.length ∧ y.1 = names.getD n { data := #[] } ∧ gs.getD n none ≠ none
theorem names_inj {names : List ByteArray} (h : names.Nodup) {a b : Nat} (ha : a < names.length) (hb : b < names.length) (e : names.getD a { data := #[] } = names.getD b { data := #[] }) : a = b := by
  have e1 : names[a] = names[b] := by simpa [List.getD, ha, hb] using e
  rcases Nat.lt_trichotomy a b with q | q | q
  · exact absurd e1 ((List.pairwise_iff_getElem.1 h) a b ha hb q)
  · exact q
  · exact absurd e1.symm ((List.pairwise_iff_getElem.1 h) b a hb ha q)
theorem findIdx_snoc {kv : List (ByteArray × ByteArray)} {p : ByteArray × ByteArray → Bool} (x : ByteArray × ByteArray) : (kv ++ [x]).findIdx? p = match kv.findIdx? p with | some j => some j | none => if p x then some kv.length else none := by
  rw [List.findIdx?_append]
  cases kv.findIdx? p with
  | some j => simp
  | none =>
    cases h : p x <;> simp [h]
theorem MG.new {names own : List ByteArray} {kv : List (ByteArray × ByteArray)} {gs : List (Option Ty)} (h : MG names own kv gs) (hN : names.Nodup) (n : Nat) (hn : n < names.length) (u : Ty) (hu : WT own.length u) (hg : gs.getD n none = none) : MG names own (kv ++ [(names.getD n { data := #[] }, shT own u)]) (gs.set n (some u)) := by
  have hl := h.len
  have gd : ∀ m, (gs.set n (Option.some u)).getD m Option.none = if m = n then Option.some u else gs.getD m Option.none := by
    intro m
    by_cases e : m = n
    · subst e
      simp [List.getD, List.getElem?_set, hl, hn]
    · simp [List.getD, List.getElem?_set, e, Ne.symm e]
  refine ⟨by simp [hl], ?_, ?_, ?_⟩
  · intro m t hm
    rw [gd] at hm
    rw [findIdx_snoc]
    by_cases e : m = n
    · subst e
      rw [if_pos rfl] at hm
      obtain rfl := Option.some.inj hm
      rw [h.not m hn hg]
      refine ⟨kv.length, ?_, by simp [kAt, List.getD], hu⟩
      simp [sameS]
    · rw [if_neg e] at hm
      obtain ⟨j, h1, h2, h3⟩ := h.got m t hm
      refine ⟨j, by rw [h1], ?_, h3⟩
      have hj : j < kv.length := (List.findIdx?_eq_some_iff_getElem.1 h1).1
      rw [← h2]
      simp [kAt, List.getD, List.getElem?_append_left hj]
  · intro m hm hmg
    rw [gd] at hmg
    by_cases e : m = n
    · rw [if_pos e] at hmg; cases hmg
    · rw [if_neg e] at hmg
      rw [findIdx_snoc, h.not m hm hmg]
      have : sameS (names.getD n { data := #[] }) (names.getD m { data := #[] }) = false := by
        rw [Bool.eq_false_iff]
        intro q
        exact e (names_inj hN hn hm ((sameS_iff _ _).1 q)).symm
      simp only [this]
      rfl
  · intro y hy
    rcases List.mem_append.1 hy with hy | hy
    · obtain ⟨m, h1, h2, h3⟩ := h.key y hy
      refine ⟨m, h1, h2, ?_⟩
      rw [gd]
      split
      · simp
      · exact h3
    · simp at hy
      subst hy
      exact ⟨n, hn, rfl, by rw [gd, if_pos rfl]; simp⟩
end Go.Proofs.YtleenphlgbklmaaGreatDoor

namespace Go.Proofs.YtleenphlgbklmaaGreatDoor
open Go.RowKit

/-- the two types, and what is known so far. -/
structure MW (w : World) (mb : Nat) (names own : List ByteArray) (vg vs : List Nat) (kv : List (ByteArray × ByteArray)) (gs : List (Option Ty)) : Prop where
  ng : NB w vg names
  ns : NB w vs own
  nd : vs.Nodup
  sm : SM w mb kv
  mg : MG names own kv gs
theorem NB.kq {w w' : World} {mb : Nat} {vb : List Nat} {names : List ByteArray} {es : Array MapEntry} {c : Nat} (h : NB w vb names) (k : Kq (· = mb) w w') (hm : w.heap[mb]? = some (.map es c)) : NB w' vb names := ⟨h.1, fun j hj => by
  have := h.2 j hj
  exact (k.block _ (lt_of_block this) (fun z => by rw [show _ = mb from z, hm] at this; cases this)).trans this⟩
theorem PTyR.kq {w w' : World} {mb : Nat} {vb : List Nat} {lo hi : Nat} {t : Ty} {v : Value} {es : Array MapEntry} {c : Nat} (h : PTyR w vb lo hi t v) (k : Kq (· = mb) w w') (hm : w.heap[mb]? = some (.map es c)) : PTyR w' vb lo hi t v := h.keep (fun q cs e f _ hq => (k.block _ (lt_of_block hq) (fun z => by rw [show q = mb from z, hm] at hq; cases hq)).trans hq)
def SMt (names own : List ByteArray) (a : Ty) : Prop := ∀ (w : World) (mb : Nat) (vg vs : List Nat) (kv : List (ByteArray × ByteArray)) (gs : List (Option Ty)) (lo hi lo2 hi2 : Nat) (u : Ty) (v x : Value), MW w mb names own vg vs kv gs → PTyR w vg lo hi a v → PTyR w vs lo2 hi2 u x → sz u ≤ 120 →
  Calls Tryz.prog 86 #[.map (some mb), v, x] w fun e w' => ∃ kv', e = .returned (.bool (matM a u gs).2) ∧ SM w' mb kv' ∧ ((matM a u gs).2 = true → MG names own kv' (matM a u gs).1) ∧ Kq (· = mb) w w'
end Go.Proofs.YtleenphlgbklmaaGreatDoor

namespace Go.Proofs.YtleenphlgbklmaaGreatDoor
open Go.RowKit

theorem SMt.of {names own : List ByteArray} {a u : Ty} {gs : List (Option Ty)} {w w' : World} {mb : Nat} {r : Bool} (h : ∃ kv', SM w' mb kv' ∧ ((matM a u gs).2 = true → MG names own kv' (matM a u gs).1) ∧ Kq (· = mb) w w') (hr : r = (matM a u gs).2) : ∃ kv', Ending.returned (.bool r) = .returned (.bool (matM a u gs).2) ∧ SM w' mb kv' ∧ ((matM a u gs).2 = true → MG names own kv' (matM a u gs).1) ∧ Kq (· = mb) w w' := by
  obtain ⟨kv', h1, h2, h3⟩ := h
  exact ⟨kv', by rw [hr], h1, h2, h3⟩
end Go.Proofs.YtleenphlgbklmaaGreatDoor
