import Derived.Test.YtleenphlgbklmaaGreatDoorQWOneN
set_option linter.unusedVariables false
set_option linter.unusedSimpArgs false
namespace Go.Proofs.YtleenphlgbklmaaGreatDoor
open Go.RowKit

theorem tref_all (l : List Tk) (hl : l.length ≤ 1000) (hG : Good l) (n : Nat) : SArr l n ∧ SOne l n := by
  induction n with
  | zero =>
    refine ⟨?_, ?_⟩
    · intro w rb tb c k bad nb B names t names' k' bad' h hk hn hr ht hok hM
      simp [arrowM] at hM
    · intro w rb tb c k bad nb B names t names' k' bad' h hk hn hr ht hok hM
      simp [oneM] at hM
  | succ n ih =>
    refine ⟨arr_step l hl hG n ih.1 ih.2, ?_⟩
    intro w rb tb c k bad nb B names t names' k' bad' h hk hn hr ht hok hM
    cases h0 : isM l { data := #[105, 110, 116] } k bad
    · cases h1 : isM l { data := #[98, 111, 111, 108] } k bad
      · cases h2 : isM l { data := #[91] } k bad
        · cases h3 : isM l { data := #[40] } k bad
          · exact one_name l hl hG n ih.1 w rb tb c k bad nb B names t names' k' bad' h hk hn hr ht hok h0 h1 h2 h3 hM
          · exact one_br l hl hG n ih.1 w rb tb c k bad nb B names t names' k' bad' h hk hn hr ht hok h0 h1 h2 h3 hM
        · exact one_list l hl hG n ih.1 w rb tb c k bad nb B names t names' k' bad' h hk hn hr ht hok h0 h1 h2 hM
      · exact one_bool l hl hG n ih.1 w rb tb c k bad nb B names t names' k' bad' h hk hn hr ht hok h0 h1 hM
    · exact one_int l hl hG n ih.1 w rb tb c k bad nb B names t names' k' bad' h hk hn hr ht hok h0 hM

/-- the place goes on; a fault stays. -/
theorem needB_geT {l : List Tk} {s : ByteArray} {k : Nat} {bad : Int} (h : 0 ≤ bad) : needB l s k bad = bad := by
  unfold needB
  rw [if_neg (by simp; omega)]
theorem isM_geT {l : List Tk} {s : ByteArray} {k : Nat} {bad : Int} (h : 0 ≤ bad) : isM l s k bad = false := by
  unfold isM
  have : decide (bad < 0) = false := by simp; omega
  rw [this]; rfl
theorem takeK_geT {l : List Tk} {s : ByteArray} {k : Nat} {bad : Int} : k ≤ takeK l s k bad := by
  unfold takeK; split <;> omega

/-- a fault, or a place further on. -/
theorem tread_on (l : List Tk) : ∀ n, (∀ names k bad t names' k' bad', arrowM l n names k bad = some (t, names', k', bad') → k ≤ k' ∧ (k < k' ∨ 0 ≤ bad')) ∧
    (∀ names k bad t names' k' bad', oneM l n names k bad = some (t, names', k', bad') → k ≤ k' ∧ (k < k' ∨ 0 ≤ bad')) := by
  intro n
  induction n with
  | zero => exact ⟨fun _ _ _ _ _ _ _ h => by simp [arrowM] at h, fun _ _ _ _ _ _ _ h => by simp [oneM] at h⟩
  | succ n ih =>
    refine ⟨?_, ?_⟩
    · intro names k bad t names' k' bad' h
      simp only [arrowM] at h
      obtain ⟨⟨x, n1, k1, b1⟩, h1, h2⟩ := Option.bind_eq_some_iff.1 h
      have g1 := ih.2 _ _ _ _ _ _ _ h1
      simp only at h2
      split at h2
      · obtain ⟨⟨y, n2, k2, b2⟩, h3, h4⟩ := Option.bind_eq_some_iff.1 h2
        have g2 := ih.1 _ _ _ _ _ _ _ h3
        simp only [Option.some.injEq, Prod.mk.injEq] at h4
        obtain ⟨_, _, rfl, rfl⟩ := h4
        exact ⟨by omega, Or.inl (by omega)⟩
      · simp only [Option.some.injEq, Prod.mk.injEq] at h2
        obtain ⟨_, _, rfl, rfl⟩ := h2
        exact g1
    · intro names k bad t names' k' bad' h
      simp only [oneM] at h
      split at h
      · simp only [Option.some.injEq, Prod.mk.injEq] at h
        obtain ⟨_, _, rfl, rfl⟩ := h
        exact ⟨by omega, Or.inl (by omega)⟩
      · split at h
        · simp only [Option.some.injEq, Prod.mk.injEq] at h
          obtain ⟨_, _, rfl, rfl⟩ := h
          exact ⟨by omega, Or.inl (by omega)⟩
        · split at h
          · obtain ⟨⟨x, n1, k1, b1⟩, h1, h2⟩ := Option.bind_eq_some_iff.1 h
            have g1 := ih.1 _ _ _ _ _ _ _ h1
            simp only [Option.some.injEq, Prod.mk.injEq] at h2
            obtain ⟨_, _, rfl, rfl⟩ := h2
            have := takeK_geT (l := l) (s := { data := #[93] }) (k := k1) (bad := b1)
            exact ⟨by omega, Or.inl (by omega)⟩
          · split at h
            · obtain ⟨⟨x, n1, k1, b1⟩, h1, h2⟩ := Option.bind_eq_some_iff.1 h
              have g1 := ih.1 _ _ _ _ _ _ _ h1
              simp only at h2
              split at h2
              · obtain ⟨⟨y, n2, k2, b2⟩, h3, h4⟩ := Option.bind_eq_some_iff.1 h2
                have g2 := ih.1 _ _ _ _ _ _ _ h3
                simp only [Option.some.injEq, Prod.mk.injEq] at h4
                obtain ⟨_, _, rfl, rfl⟩ := h4
                have := takeK_geT (l := l) (s := { data := #[41] }) (k := k2) (bad := b2)
                exact ⟨by omega, Or.inl (by omega)⟩
              · simp only [Option.some.injEq, Prod.mk.injEq] at h2
                obtain ⟨_, _, rfl, rfl⟩ := h2
                have := takeK_geT (l := l) (s := { data := #[41] }) (k := k1) (bad := b1)
                exact ⟨by omega, Or.inl (by omega)⟩
            · simp only [Option.some.injEq, Prod.mk.injEq] at h
              obtain ⟨_, _, rfl, rfl⟩ := h
              refine ⟨takeK_geT, ?_⟩
              by_cases hb : 0 ≤ bad
              · exact Or.inr (by rw [needB_geT hb]; exact hb)
              · by_cases hM : isM l { data := #[110, 97, 109, 101] } k bad = true
                · exact Or.inl (by unfold takeK; rw [if_pos hM]; omega)
                · refine Or.inr ?_
                  unfold needB
                  rw [if_pos (by simp [hM]; omega)]
                  omega

/-- so much fuel is enough. -/
theorem tread_total (l : List Tk) (hG : Good l) : ∀ m, (∀ names k bad n, k < l.length → l.length - k ≤ m → 2 * m + 2 ≤ n → ∃ r, arrowM l n names k bad = some r) ∧
    (∀ names k bad n, k < l.length → l.length - k ≤ m → 2 * m + 1 ≤ n → ∃ r, oneM l n names k bad = some r) := by
  intro m
  induction m with
  | zero => exact ⟨fun _ k _ _ hk h => by omega, fun _ k _ _ hk h => by omega⟩
  | succ m ih =>
    have one : ∀ names k bad n, k < l.length → l.length - k ≤ m + 1 → 2 * (m + 1) + 1 ≤ n → ∃ r, oneM l n names k bad = some r := by
      intro names k bad n hk hm hn
      obtain ⟨n, rfl⟩ : ∃ j, n = j + 1 := ⟨n - 1, by omega⟩
      simp only [oneM]
      split
      · exact ⟨_, rfl⟩
      · split
        · exact ⟨_, rfl⟩
        · split
          · rename_i hM
            have hk1 := isM_lt hG hk hM (by decide) (by decide)
            obtain ⟨r, hr⟩ := ih.1 names (k + 1) bad n hk1 (by omega) (by omega)
            rw [hr]
            exact ⟨_, rfl⟩
          · split
            · rename_i hM
              have hk1 := isM_lt hG hk hM (by decide) (by decide)
              obtain ⟨⟨x, n1, k1, b1⟩, hr⟩ := ih.1 names (k + 1) bad n hk1 (by omega) (by omega)
              rw [hr]
              simp only [Option.bind_some]
              split
              · rename_i hM2
                have hle := ((tread_on l n).1 _ _ _ _ _ _ _ hr).1
                have hkl : k1 < l.length := by
                  rcases Nat.lt_or_ge k1 l.length with h | h
                  · exact h
                  · simp only [isM, Bool.and_eq_true] at hM2
                    have : tkAt l k1 = Tk.no := by simp [tkAt, List.getD_eq_getElem?_getD, List.getElem?_eq_none h]
                    rw [this] at hM2
                    have h2 := hM2.2
                    simp [Tk.no] at h2
                have hk2 := isM_lt hG hkl hM2 (by decide) (by decide)
                obtain ⟨r2, hr2⟩ := ih.1 n1 (k1 + 1) b1 n hk2 (by omega) (by omega)
                rw [hr2]
                exact ⟨_, rfl⟩
              · exact ⟨_, rfl⟩
            · exact ⟨_, rfl⟩
    refine ⟨?_, one⟩
    intro names k bad n hk hm hn
    obtain ⟨n, rfl⟩ : ∃ j, n = j + 1 := ⟨n - 1, by omega⟩
    simp only [arrowM]
    obtain ⟨⟨x, n1, k1, b1⟩, hr⟩ := one names k bad n hk hm (by omega)
    rw [hr]
    simp only [Option.bind_some]
    split
    · rename_i hM2
      have hle := ((tread_on l n).2 _ _ _ _ _ _ _ hr).1
      have hkl : k1 < l.length := by
        rcases Nat.lt_or_ge k1 l.length with h | h
        · exact h
        · simp only [isM, Bool.and_eq_true] at hM2
          have : tkAt l k1 = Tk.no := by simp [tkAt, List.getD_eq_getElem?_getD, List.getElem?_eq_none h]
          rw [this] at hM2
          have h2 := hM2.2
          simp [Tk.no] at h2
      have hk2 := isM_lt hG hkl hM2 (by decide) (by decide)
      obtain ⟨r2, hr2⟩ := ih.1 n1 (k1 + 1) b1 n hk2 (by omega) (by omega)
      rw [hr2]
      exact ⟨_, rfl⟩
    · exact ⟨_, rfl⟩
end Go.Proofs.YtleenphlgbklmaaGreatDoor
