import Derived.Test.YtnhmjndjclpnlaaGreatDoorRWCanon
set_option linter.unusedVariables false
set_option linter.unusedSimpArgs false
namespace Go.Proofs.YtnhmjndjclpnlaaGreatDoor
open Go.RowKit

theorem varsM_pre {m : Nat} {t : Ty} (h : WT m t) : ∀ l, l <+: varsM t l := by
  induction h with
  | var n hn => intro l; rw [varsM_leaf]; split; exact List.prefix_refl _; exact List.prefix_append _ _
  | int => intro l; rw [varsM_int]; exact List.prefix_refl _
  | bool => intro l; rw [varsM_bool]; exact List.prefix_refl _
  | list a _ ih => intro l; rw [varsM_list]; exact ih l
  | pair a b _ _ ih ih2 => intro l; rw [varsM_pair]; exact (ih l).trans (ih2 _)
  | fn a b _ _ ih ih2 => intro l; rw [varsM_fn]; exact (ih l).trans (ih2 _)
theorem varsM_nodup {m : Nat} {t : Ty} (h : WT m t) : ∀ l, l.Nodup → (varsM t l).Nodup := by
  induction h with
  | var n hn =>
    intro l hl
    rw [varsM_leaf]
    split
    · exact hl
    · rename_i e
      refine List.nodup_append.2 ⟨hl, by simp, ?_⟩
      intro a ha b hb
      simp at hb
      subst hb
      intro q
      subst q
      exact e (List.contains_iff_mem.2 ha)
  | int => intro l hl; rw [varsM_int]; exact hl
  | bool => intro l hl; rw [varsM_bool]; exact hl
  | list a _ ih => intro l hl; rw [varsM_list]; exact ih l hl
  | pair a b _ _ ih ih2 => intro l hl; rw [varsM_pair]; exact ih2 _ (ih l hl)
  | fn a b _ _ ih ih2 => intro l hl; rw [varsM_fn]; exact ih2 _ (ih l hl)
theorem cnA_get (ns : List Nat) (m : Nat) (hd : ns.Nodup) (hlt : ∀ x, x ∈ ns → x < m) : ∀ q, q ≤ ns.length → ∀ j, j < q → (cnA ns m q).getD (ns.getD j 0) { data := #[] } = letM j := by
  intro q
  induction q with
  | zero => intro _ j hj; omega
  | succ q ih =>
    intro hq j hj
    have gq : ns.getD q 0 = ns[q] := by simp [List.getD, show q < ns.length by omega]
    have gj : ns.getD j 0 = ns[j] := by simp [List.getD, show j < ns.length by omega]
    by_cases e : j = q
    · subst e
      have : ns.getD j 0 < (cnA ns m j).length := by rw [cnA_len, gj]; exact hlt _ (List.getElem_mem _)
      simp [cnA, List.getD, List.getElem?_set] at this ⊢
      simp [this]
    · have hne : ns.getD q 0 ≠ ns.getD j 0 := by
        rw [gq, gj]
        intro z
        exact (List.pairwise_iff_getElem.1 hd) j q (by omega) (by omega) (by omega) z.symm
      have hi := ih (by omega) j (by omega)
      rw [← hi]
      simp only [cnA]
      generalize ns.getD q 0 = x at *
      generalize ns.getD j 0 = y at *
      simp only [List.getD]
      rw [List.getElem?_set_ne hne]
end Go.Proofs.YtnhmjndjclpnlaaGreatDoor
