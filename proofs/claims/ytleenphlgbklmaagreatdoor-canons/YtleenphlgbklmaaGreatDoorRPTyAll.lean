import Derived.Test.YtleenphlgbklmaaGreatDoorRPTyC
set_option linter.unusedVariables false
set_option linter.unusedSimpArgs false
namespace Go.Proofs.YtleenphlgbklmaaGreatDoor
open Go.RowKit

theorem ptref_all (s : ByteArray) (kws : List ByteArray) (L : List Tk) (hE : PEnv s kws L) (hkw : kws = [{ data := #[105, 110, 116] }, { data := #[98, 111, 111, 108] }]) (n : Nat) : SPTyp s L n ∧ SPOne s L n := by
  have hki : { data := #[105, 110, 116] } ∈ kws := by rw [hkw]; simp
  have hkb : { data := #[98, 111, 111, 108] } ∈ kws := by rw [hkw]; simp
  induction n with
  | zero =>
    refine ⟨?_, ?_⟩
    · intro w rb mb k names vb t names' k' bad' h hv hok hne hM
      simp [arrowM] at hM
    · intro w rb mb k names vb t names' k' bad' h hv hok hne hM
      simp [oneM] at hM
  | succ n ih =>
    refine ⟨ptyp_step s kws L hE n ih.1 ih.2, ?_⟩
    intro w rb mb k names vb t names' k' bad' h hv hok hne hM
    simp only [oneM] at hM
    cases h0 : isM L { data := #[105, 110, 116] } k (-1)
    · rw [h0] at hM
      cases h1 : isM L { data := #[98, 111, 111, 108] } k (-1)
      · rw [h1] at hM
        cases h2 : isM L { data := #[110, 97, 109, 101] } k (-1)
        · cases h3 : isM L { data := #[91] } k (-1)
          · rw [h3] at hM
            cases h4 : isM L { data := #[40] } k (-1)
            · rw [h4] at hM
              simp only [Bool.false_eq_true, if_false, Option.some.injEq, Prod.mk.injEq] at hM
              obtain ⟨_, _, _, rfl⟩ := hM
              rw [(needB_false h2 (by omega)).1]
              exact pone_bad s kws L hE hki hkb w rb mb k names vb t names' k' h hv hok hne hkw h0 h1 h2 h3 h4
            · rw [h4] at hM
              simp only [Bool.false_eq_true, if_false, if_true] at hM
              obtain ⟨⟨x, n1, k1, b1⟩, q1, q2⟩ := Option.bind_eq_some_iff.1 hM
              exact pone_brk s kws L hE hki hkb w rb mb k names vb t names' k' bad' h hv hok hne hkw h0 h1 h2 h3 h4 (fun w1 hp1 hv1 => pbrk_any s kws L hE n ih.1 w1 rb mb k names vb x n1 k1 b1 t names' k' bad' hp1 hv1 hok hne h4 q1 q2)
          · rw [h3] at hM
            simp only [Bool.false_eq_true, if_false, if_true] at hM
            obtain ⟨⟨x, n1, k1, b1⟩, q1, q2⟩ := Option.bind_eq_some_iff.1 hM
            simp only [Option.some.injEq, Prod.mk.injEq] at q2
            obtain ⟨rfl, rfl, rfl, rfl⟩ := q2
            exact pone_list s kws L hE hki hkb w rb mb k names vb _ _ _ _ h hv hok hne hkw h0 h1 h2 h3 (fun w1 hp1 hv1 => plist_any s kws L hE n ih.1 w1 rb mb k names vb x n1 k1 b1 hp1 hv1 hok hne h3 q1)
        · have h3 : isM L { data := #[91] } k (-1) = false := by
            simp only [isM, Bool.and_eq_true] at h2
            simp only [isM]
            rw [(sameS_iff (tkAt L k).is { data := #[110, 97, 109, 101] }).1 h2.2]
            decide
          have h4 : isM L { data := #[40] } k (-1) = false := by
            simp only [isM, Bool.and_eq_true] at h2
            simp only [isM]
            rw [(sameS_iff (tkAt L k).is { data := #[110, 97, 109, 101] }).1 h2.2]
            decide
          rw [h3, h4] at hM
          simp only [Bool.false_eq_true, if_false, Option.some.injEq, Prod.mk.injEq] at hM
          obtain ⟨rfl, rfl, rfl, rfl⟩ := hM
          rw [(needB_true h2).1, (needB_true h2).2]
          exact pone_name s kws L hE hki hkb w rb mb k names vb h hv hok hne h0 h1 h2
      · rw [h1] at hM
        simp only [Bool.false_eq_true, if_false, if_true, Option.some.injEq, Prod.mk.injEq] at hM
        obtain ⟨rfl, rfl, rfl, rfl⟩ := hM
        exact pone_bool s kws L hE hki hkb w rb mb k names vb h hv hok hne h0 h1
    · rw [h0] at hM
      simp only [if_true, Option.some.injEq, Prod.mk.injEq] at hM
      obtain ⟨rfl, rfl, rfl, rfl⟩ := hM
      exact pone_int s kws L hE hki hkb w rb mb k names vb h hv hok hne h0
end Go.Proofs.YtleenphlgbklmaaGreatDoor
