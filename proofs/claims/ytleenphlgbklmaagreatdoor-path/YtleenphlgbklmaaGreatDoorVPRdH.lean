import Derived.Test.YtleenphlgbklmaaGreatDoorVPRdG
set_option linter.unusedVariables false
set_option linter.unusedSimpArgs false
namespace Go.Proofs.YtleenphlgbklmaaGreatDoor
open Go.RowKit

/-- the program's reader of expressions does what the document's does. -/
theorem pread_all {s : ByteArray} {L : List Tk} (hE : PEnv s wordsL L) : ∀ n, SE s L n ∧ SA s L n := by
  intro n
  induction n using Nat.strongRecOn with
  | ind n ih =>
  cases n with
  | zero => exact ⟨fun w rb k x k' bad' _ h => by simp [expM] at h, fun w rb k x k' bad' _ h => by simp [atomM] at h⟩
  | succ n =>
  have hA := (ih n (by omega)).1
  refine ⟨?_, ?_⟩
  · intro w rb k x k' bad' h hM
    rw [expM, if_neg (by omega)] at hM
    cases hF : isM L { data := #[102, 117, 110] } k (-1)
    · simp only [hF, Bool.false_eq_true, if_false] at hM
      cases hI : isM L { data := #[105, 102] } k (-1)
      · simp only [hI, Bool.false_eq_true, if_false] at hM
        cases hL : isM L { data := #[108, 101, 116] } k (-1)
        · simp only [hL, Bool.false_eq_true, if_false] at hM
          obtain ⟨⟨x1, k1, b1⟩, h1, h2⟩ := Option.bind_eq_some_iff.1 hM
          exact pexp_atoms hE w rb k h hF hI hL x k' bad' (fun w1 p1 => patoms_any hE n (fun m hm => (ih m (by omega)).2) w1 rb k p1 x1 x k1 k' b1 bad' h1 h2)
        · simp only [hL, if_true] at hM
          cases hR : isM L { data := #[114, 101, 99] } (k + 1) (-1)
          · simp only [hR, Bool.false_eq_true, if_false] at hM
            obtain ⟨⟨ns, ks, k1, b1⟩, h1, h2⟩ := Option.bind_eq_some_iff.1 hM
            obtain ⟨⟨y, k2, b2⟩, h3, h4⟩ := Option.bind_eq_some_iff.1 h2
            simp only [Option.some.injEq, Prod.mk.injEq] at h4
            obtain ⟨rfl, rfl, rfl⟩ := h4
            cases n with
            | zero => simp [boundM] at h1
            | succ m =>
              simp only [boundM] at h1
              have e : dupB [] (tkAt L (k + 1)).s (tkAt L (k + 1)).loc (needB L { data := #[110, 97, 109, 101] } (k + 1) (-1)) = needB L { data := #[110, 97, 109, 101] } (k + 1) (-1) := by simp [dupB]
              rw [e] at h1
              obtain ⟨⟨x1, k3, b3⟩, h5, h6⟩ := Option.bind_eq_some_iff.1 h1
              simp only [Option.some.injEq, Prod.mk.injEq] at h6
              obtain ⟨rfl, rfl, rfl, rfl⟩ := h6
              exact pexp_let hE w rb k h hF hI hL _ _ _ (fun w1 p1 => plet_any hE (m + 1) m hA (ih m (by omega)).1 w1 rb k p1 hL hR x1 y k3 k2 b3 b2 h5 h3)
          · simp only [hR, if_true] at hM
            obtain ⟨⟨ns, ks, k1, b1⟩, h1, h2⟩ := Option.bind_eq_some_iff.1 hM
            obtain ⟨⟨ns2, ks2, k2, b2⟩, h3, h4⟩ := Option.bind_eq_some_iff.1 h2
            obtain ⟨⟨y, k3, b3⟩, h5, h6⟩ := Option.bind_eq_some_iff.1 h4
            simp only [Option.some.injEq, Prod.mk.injEq] at h6
            obtain ⟨rfl, rfl, rfl⟩ := h6
            refine pexp_let hE w rb k h hF hI hL _ _ _ (fun w1 p1 => plrec_any hE w1 rb k p1 hL hR _ _ _ (fun hz => ?_) (fun w2 p2 => prec_any hE n (fun m hm => (ih m (by omega)).1) w2 rb (k + 1) p2 hR ns ns2 ks ks2 y k1 k2 k3 b1 b2 b3 _ h1 h3 h5))
            rw [isM_bz hz (by decide)] at hR
            cases hR
      · simp only [hI, if_true] at hM
        obtain ⟨⟨x1, k1, b1⟩, h1, h2⟩ := Option.bind_eq_some_iff.1 hM
        obtain ⟨⟨x2, k2, b2⟩, h3, h4⟩ := Option.bind_eq_some_iff.1 h2
        obtain ⟨⟨x3, k3, b3⟩, h5, h6⟩ := Option.bind_eq_some_iff.1 h4
        simp only [Option.some.injEq, Prod.mk.injEq] at h6
        obtain ⟨rfl, rfl, rfl⟩ := h6
        exact pexp_if hE w rb k h hF hI _ _ _ (fun w1 p1 => pif_any hE n hA w1 rb k p1 hI x1 x2 x3 k1 k2 k3 b1 b2 b3 h1 h3 h5)
    · simp only [hF, if_true] at hM
      obtain ⟨⟨x1, k1, b1⟩, h1, h2⟩ := Option.bind_eq_some_iff.1 hM
      simp only [Option.some.injEq, Prod.mk.injEq] at h2
      obtain ⟨rfl, rfl, rfl⟩ := h2
      exact pexp_fun hE w rb k h hF _ _ _ (fun w1 p1 => pfun_any hE n hA w1 rb k p1 hF x1 k1 b1 h1)
  · intro w rb k x k' bad' h hM
    rw [atomM] at hM
    cases hN : isM L { data := #[110, 97, 109, 101] } k (-1)
    · cases hU : isM L { data := #[110, 117, 109] } k (-1)
      · simp only [hN, hU, Bool.or_false, Bool.false_eq_true, if_false] at hM
        obtain ⟨⟨x1, k1, b1⟩, h1, h2⟩ := Option.bind_eq_some_iff.1 hM
        simp only at h2
        cases hO : isM L { data := #[40] } k (-1)
        · rw [(need_false hO).1, (need_false hO).2] at h1
          have z0 : bz L k ((tkAt L k).loc : Int) = (tkAt L k).loc := bz_ge (by omega)
          have z1 := (stk L n).ex _ _ _ _ _ h1 (by rw [z0]; omega)
          rw [z0] at z1
          have hz1 : 0 ≤ bz L k1 b1 := by rw [z1]; omega
          rw [isM_bz hz1 (by decide)] at h2
          simp only [Bool.false_eq_true, if_false, Option.some.injEq, Prod.mk.injEq] at h2
          obtain ⟨rfl, rfl, rfl⟩ := h2
          exact patom_bad hE w rb k h hN hU hO _ _ _ ((need_bz' hz1 (by decide)).trans z1)
        · rw [(need_true hO).1, (need_true hO).2] at h1
          cases hC : isM L { data := #[44] } k1 b1
          · simp only [hC, Bool.false_eq_true, if_false, Option.some.injEq, Prod.mk.injEq] at h2
            obtain ⟨rfl, rfl, rfl⟩ := h2
            exact patom_br hE w rb k h hO _ _ _ (sticks (fun hz => (stk L n).ex _ _ _ _ _ h1 hz) (fun hz => need_bz' hz (by decide))) (fun w1 p1 => pbr1_any hE n hA w1 rb (k + 1) p1 x1 k1 b1 h1 hC)
          · simp only [hC, if_true] at h2
            obtain ⟨⟨x2, k2, b2⟩, h3, h4⟩ := Option.bind_eq_some_iff.1 h2
            simp only [Option.some.injEq, Prod.mk.injEq] at h4
            obtain ⟨rfl, rfl, rfl⟩ := h4
            refine patom_br hE w rb k h hO _ _ _ (fun hz => ?_) (fun w1 p1 => pbr2_any hE n hA w1 rb (k + 1) _ p1 x1 x2 k1 k2 b1 b2 h1 hC h3)
            have z1 := (stk L n).ex _ _ _ _ _ h1 hz
            rw [isM_bz (by rw [z1]; exact hz) (by decide)] at hC
            cases hC
      · simp only [hN, hU, Bool.false_or, if_true, Option.some.injEq, Prod.mk.injEq] at hM
        obtain ⟨rfl, rfl, rfl⟩ := hM
        rw [is_name hU]
        exact patom_num hE w rb k h hU
    · simp only [hN, Bool.true_or, if_true, Option.some.injEq, Prod.mk.injEq] at hM
      obtain ⟨rfl, rfl, rfl⟩ := hM
      rw [is_name hN]
      exact patom_name hE w rb k h hN
end Go.Proofs.YtleenphlgbklmaaGreatDoor
