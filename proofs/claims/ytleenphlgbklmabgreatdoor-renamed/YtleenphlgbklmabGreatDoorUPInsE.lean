import Derived.Test.YtleenphlgbklmabGreatDoorUPInsA
set_option linter.unusedVariables false
set_option linter.unusedSimpArgs false
namespace Go.Proofs.YtleenphlgbklmabGreatDoor
open Go.RowKit

def SzB (M : Nat) (gs : List (Option Ty)) : Prop := ∀ i t, gs.getD i none = some t → sz t ≤ M
theorem matM_sz {m : Nat} {a : Ty} (h : WT m a) (M : Nat) : ∀ (k : Nat) (u : Ty) (hu : WT k u) (hs : sz u ≤ M) (gs : List (Option Ty)), SzB M gs → SzB M (matM a u gs).1 := by
  have two : ∀ (kd : ByteArray) (h0 : (kd.data.toList == []) = false) (a b c d : Ty) (gs : List (Option Ty)), (∀ gs, SzB M gs → SzB M (matM a c gs).1) → (∀ gs, SzB M gs → SzB M (matM b d gs).1) → SzB M gs → SzB M (matM (.mk kd 0 [a, b]) (.mk kd 0 [c, d]) gs).1 := by
    intro kd h0 a b c d gs f g hg
    rw [matM_two kd h0]
    split
    · split
      · exact g _ (f _ hg)
      · exact f _ hg
    · exact hg
  induction h with
  | var n hn =>
    intro k u hu hs gs hg
    rw [matM_var]
    cases he : gs.getD n none with
    | some t => exact hg
    | none =>
      intro i t ht
      by_cases e : i = n
      · subst e
        by_cases hl : i < gs.length
        · have : (gs.set i (some u)).getD i none = some u := by simp [List.getD, hl]
          rw [this] at ht
          cases ht
          exact hs
        · have : (gs.set i (some u)).getD i none = none := by
            simp only [List.getD]
            rw [List.getElem?_eq_none (by simp; omega)]
            rfl
          rw [this] at ht
          cases ht
      · refine hg i t ?_
        simpa [List.getD, List.getElem?_set, Ne.symm e] using ht
  | int =>
    intro k u hu hs gs hg
    cases u with
    | mk k' n' l' => simp only [matM]; split; contradiction; split; simpa [matMs] using hg; exact hg
  | bool =>
    intro k u hu hs gs hg
    cases u with
    | mk k' n' l' => simp only [matM]; split; contradiction; split; simpa [matMs] using hg; exact hg
  | list a _ ih =>
    intro k u hu hs gs hg
    cases hu with
    | list c hc =>
      cases hB : (matM a c gs).2 with
      | true => rw [(matM_list a c gs).2 hB]; exact ih k c hc (by simp only [sz, szs] at hs; omega) gs hg
      | false =>
        have e : matM (.mk { data := #[108, 105, 115, 116] } 0 [a]) (.mk { data := #[108, 105, 115, 116] } 0 [c]) gs = (gs, false) := by
          rw [matM]
          simp [matMs, hB]
        rw [e]
        exact hg
    | var n _ => rw [matM_other _ _ _ _ _ _ _ (by decide) (by decide)]; exact hg
    | int => rw [matM_other _ _ _ _ _ _ _ (by decide) (by decide)]; exact hg
    | bool => rw [matM_other _ _ _ _ _ _ _ (by decide) (by decide)]; exact hg
    | pair _ _ _ _ => rw [matM_other _ _ _ _ _ _ _ (by decide) (by decide)]; exact hg
    | fn _ _ _ _ => rw [matM_other _ _ _ _ _ _ _ (by decide) (by decide)]; exact hg
  | pair a b _ _ ih ih2 =>
    intro k u hu hs gs hg
    cases hu with
    | pair c d hc hd => exact two _ (by decide) a b c d gs (fun gs => ih k c hc (by simp only [sz, szs] at hs; omega) gs) (fun gs => ih2 k d hd (by simp only [sz, szs] at hs; omega) gs) hg
    | var n _ => rw [matM_other _ _ _ _ _ _ _ (by decide) (by decide)]; exact hg
    | int => rw [matM_other _ _ _ _ _ _ _ (by decide) (by decide)]; exact hg
    | bool => rw [matM_other _ _ _ _ _ _ _ (by decide) (by decide)]; exact hg
    | list _ _ => rw [matM_other _ _ _ _ _ _ _ (by decide) (by decide)]; exact hg
    | fn _ _ _ _ => rw [matM_other _ _ _ _ _ _ _ (by decide) (by decide)]; exact hg
  | fn a b _ _ ih ih2 =>
    intro k u hu hs gs hg
    cases hu with
    | fn c d hc hd => exact two _ (by decide) a b c d gs (fun gs => ih k c hc (by simp only [sz, szs] at hs; omega) gs) (fun gs => ih2 k d hd (by simp only [sz, szs] at hs; omega) gs) hg
    | var n _ => rw [matM_other _ _ _ _ _ _ _ (by decide) (by decide)]; exact hg
    | int => rw [matM_other _ _ _ _ _ _ _ (by decide) (by decide)]; exact hg
    | bool => rw [matM_other _ _ _ _ _ _ _ (by decide) (by decide)]; exact hg
    | list _ _ => rw [matM_other _ _ _ _ _ _ _ (by decide) (by decide)]; exact hg
    | pair _ _ _ _ => rw [matM_other _ _ _ _ _ _ _ (by decide) (by decide)]; exact hg

/-- a row of strings, by a function of the number. -/
def SRow (w : World) (ao : Option Addr) (n : Nat) (f : Nat → ByteArray) : Prop := ∃ g, ∀ q, q < n → ao = some ⟨g, 0, none⟩ ∧ w.cell? ⟨g, q, none⟩ = some (.string (f q))
theorem SRow.drewN {w : World} {ao : Option Addr} {n : Nat} {f : Nat → ByteArray} (h : SRow w ao n f) (m : Nat) : SRow (w.drewN m) ao n f := h
theorem SRow.kept {w w' : World} {ao : Option Addr} {n : Nat} {f : Nat → ByteArray} (h : SRow w ao n f) (hk : Kept w w') : SRow w' ao n f := by
  obtain ⟨g, h⟩ := h
  exact ⟨g, fun q hq => ⟨(h q hq).1, hk.cell (h q hq).2⟩⟩
theorem srow_of {w : World} {B : Nat} {v : Value} {n : Nat} {vs : List Value} {f : Nat → ByteArray} (h : w.ownsRow B 9 1 v n vs) (hv : ∀ q, q < n → vs[q]? = some (.string (f q))) : ∃ ao cap, v = .slice ao n cap ∧ SRow w ao n f := by
  rcases h.2 with ⟨rfl, q⟩ | ⟨g, cap, cur, rfl, _, hg, _⟩
  · subst q
    exact ⟨none, 0, rfl, 0, fun q hq => by omega⟩
  · refine ⟨_, _, rfl, g, fun q hq => ⟨rfl, ?_⟩⟩
    have h1 := World.ownsRow.cells h (g := g) rfl q (.string (f q)) (hv q hq)
    have e3 : ((⟨g, 0, none⟩ : Addr).add q) = ⟨g, q, none⟩ := by unfold Addr.add; split <;> simp_all
    rw [e3] at h1
    exact h1

end Go.Proofs.YtleenphlgbklmabGreatDoor
