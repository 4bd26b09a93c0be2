import Derived.Test.YtleenphlgbklmabGreatDoorUTyMirror
import Derived.Test.YtleenphlgbklmabGreatDoorUGrow
import Derived.Deep.DeepCutAuto
import Derived.Deep.LoopGhost
import Derived.Test.YtleenphlgbklmabGreatDoorUMid
import Derived.Test.YtleenphlgbklmabGreatDoorURefGood
set_option linter.unusedVariables false
set_option linter.unusedSimpArgs false
namespace Go.Proofs.YtleenphlgbklmabGreatDoor
open Go.RowKit

section
variable {w w' w'' : World} {rb tb c : Nat} {l : List Tk} {k k' k'' : Nat} {bad bad' bad'' : Int} {nb B : Nat} {names names' names'' : List ByteArray}
end

end Go.Proofs.YtleenphlgbklmabGreatDoor

namespace Go.Proofs.YtleenphlgbklmabGreatDoor
open Go.RowKit

theorem row_form0 {w : World} {B : Nat} {e : TypeId} {z : Nat} {v : Value} {n : Nat} {xs : List Value} (h : w.ownsRow B e z v n xs) : ∃ ao cap, v = .slice ao n cap ∧ (0 < n → ∃ g, ao = some ⟨g, 0, none⟩) := by
  rcases h.2 with ⟨rfl, e⟩ | ⟨g, cap, cur, rfl, hb, _⟩
  · exact ⟨none, 0, by rw [e], fun hi => by omega⟩
  · exact ⟨some ⟨g, 0, none⟩, cap, rfl, fun _ => ⟨g, rfl⟩⟩

end Go.Proofs.YtleenphlgbklmabGreatDoor

namespace Go.Proofs.YtleenphlgbklmabGreatDoor
open Go.RowKit

/-- the place goes on; a fault stays. -/
theorem needB_geT {l : List Tk} {s : ByteArray} {k : Nat} {bad : Int} (h : 0 ≤ bad) : needB l s k bad = bad := by
  unfold needB
  rw [if_neg (by simp; omega)]
theorem isM_geT {l : List Tk} {s : ByteArray} {k : Nat} {bad : Int} (h : 0 ≤ bad) : isM l s k bad = false := by
  unfold isM
  have : decide (bad < 0) = false := by simp; omega
  rw [this]; rfl
theorem takeK_geT {l : List Tk} {s : ByteArray} {k : Nat} {bad : Int} : k ≤ takeK l s k bad := by
  unfold takeK; split <;> omega

/-- a fault, or a place further on. -/
theorem tread_on (l : List Tk) : ∀ n, (∀ names k bad t names' k' bad', arrowM l n names k bad = some (t, names', k', bad') → k ≤ k' ∧ (k < k' ∨ 0 ≤ bad')) ∧
    (∀ names k bad t names' k' bad', oneM l n names k bad = some (t, names', k', bad') → k ≤ k' ∧ (k < k' ∨ 0 ≤ bad')) := by
  intro n
  induction n with
  | zero => exact ⟨fun _ _ _ _ _ _ _ h => by simp [arrowM] at h, fun _ _ _ _ _ _ _ h => by simp [oneM] at h⟩
  | succ n ih =>
    refine ⟨?_, ?_⟩
    · intro names k bad t names' k' bad' h
      simp only [arrowM] at h
      obtain ⟨⟨x, n1, k1, b1⟩, h1, h2⟩ := Option.bind_eq_some_iff.1 h
      have g1 := ih.2 _ _ _ _ _ _ _ h1
      simp only at h2
      split at h2
      · obtain ⟨⟨y, n2, k2, b2⟩, h3, h4⟩ := Option.bind_eq_some_iff.1 h2
        have g2 := ih.1 _ _ _ _ _ _ _ h3
        simp only [Option.some.injEq, Prod.mk.injEq] at h4
        obtain ⟨_, _, rfl, rfl⟩ := h4
        exact ⟨by omega, Or.inl (by omega)⟩
      · simp only [Option.some.injEq, Prod.mk.injEq] at h2
        obtain ⟨_, _, rfl, rfl⟩ := h2
        exact g1
    · intro names k bad t names' k' bad' h
      simp only [oneM] at h
      split at h
      · simp only [Option.some.injEq, Prod.mk.injEq] at h
        obtain ⟨_, _, rfl, rfl⟩ := h
        exact ⟨by omega, Or.inl (by omega)⟩
      · split at h
        · simp only [Option.some.injEq, Prod.mk.injEq] at h
          obtain ⟨_, _, rfl, rfl⟩ := h
          exact ⟨by omega, Or.inl (by omega)⟩
        · split at h
          · obtain ⟨⟨x, n1, k1, b1⟩, h1, h2⟩ := Option.bind_eq_some_iff.1 h
            have g1 := ih.1 _ _ _ _ _ _ _ h1
            simp only [Option.some.injEq, Prod.mk.injEq] at h2
            obtain ⟨_, _, rfl, rfl⟩ := h2
            have := takeK_geT (l := l) (s := { data := #[93] }) (k := k1) (bad := b1)
            exact ⟨by omega, Or.inl (by omega)⟩
          · split at h
            · obtain ⟨⟨x, n1, k1, b1⟩, h1, h2⟩ := Option.bind_eq_some_iff.1 h
              have g1 := ih.1 _ _ _ _ _ _ _ h1
              simp only at h2
              split at h2
              · obtain ⟨⟨y, n2, k2, b2⟩, h3, h4⟩ := Option.bind_eq_some_iff.1 h2
                have g2 := ih.1 _ _ _ _ _ _ _ h3
                simp only [Option.some.injEq, Prod.mk.injEq] at h4
                obtain ⟨_, _, rfl, rfl⟩ := h4
                have := takeK_geT (l := l) (s := { data := #[41] }) (k := k2) (bad := b2)
                exact ⟨by omega, Or.inl (by omega)⟩
              · simp only [Option.some.injEq, Prod.mk.injEq] at h2
                obtain ⟨_, _, rfl, rfl⟩ := h2
                have := takeK_geT (l := l) (s := { data := #[41] }) (k := k1) (bad := b1)
                exact ⟨by omega, Or.inl (by omega)⟩
            · simp only [Option.some.injEq, Prod.mk.injEq] at h
              obtain ⟨_, _, rfl, rfl⟩ := h
              refine ⟨takeK_geT, ?_⟩
              by_cases hb : 0 ≤ bad
              · exact Or.inr (by rw [needB_geT hb]; exact hb)
              · by_cases hM : isM l { data := #[110, 97, 109, 101] } k bad = true
                · exact Or.inl (by unfold takeK; rw [if_pos hM]; omega)
                · refine Or.inr ?_
                  unfold needB
                  rw [if_pos (by simp [hM]; omega)]
                  omega

/-- so much fuel is enough. -/
theorem tread_total (l : List Tk) (hG : Good l) : ∀ m, (∀ names k bad n, k < l.length → l.length - k ≤ m → 2 * m + 2 ≤ n → ∃ r, arrowM l n names k bad = some r) ∧
    (∀ names k bad n, k < l.length → l.length - k ≤ m → 2 * m + 1 ≤ n → ∃ r, oneM l n names k bad = some r) := by
  intro m
  induction m with
  | zero => exact ⟨fun _ k _ _ hk h => by omega, fun _ k _ _ hk h => by omega⟩
  | succ m ih =>
    have one : ∀ names k bad n, k < l.length → l.length - k ≤ m + 1 → 2 * (m + 1) + 1 ≤ n → ∃ r, oneM l n names k bad = some r := by
      intro names k bad n hk hm hn
      obtain ⟨n, rfl⟩ : ∃ j, n = j + 1 := ⟨n - 1, by omega⟩
      simp only [oneM]
      split
      · exact ⟨_, rfl⟩
      · split
        · exact ⟨_, rfl⟩
        · split
          · rename_i hM
            have hk1 := isM_lt hG hk hM (by decide) (by decide)
            obtain ⟨r, hr⟩ := ih.1 names (k + 1) bad n hk1 (by omega) (by omega)
            rw [hr]
            exact ⟨_, rfl⟩
          · split
            · rename_i hM
              have hk1 := isM_lt hG hk hM (by decide) (by decide)
              obtain ⟨⟨x, n1, k1, b1⟩, hr⟩ := ih.1 names (k + 1) bad n hk1 (by omega) (by omega)
              rw [hr]
              simp only [Option.bind_some]
              split
              · rename_i hM2
                have hle := ((tread_on l n).1 _ _ _ _ _ _ _ hr).1
                have hkl : k1 < l.length := by
                  rcases Nat.lt_or_ge k1 l.length with h | h
                  · exact h
                  · simp only [isM, Bool.and_eq_true] at hM2
                    have : tkAt l k1 = Tk.no := by simp [tkAt, List.getD_eq_getElem?_getD, List.getElem?_eq_none h]
                    rw [this] at hM2
                    have h2 := hM2.2
                    simp [Tk.no] at h2
                have hk2 := isM_lt hG hkl hM2 (by decide) (by decide)
                obtain ⟨r2, hr2⟩ := ih.1 n1 (k1 + 1) b1 n hk2 (by omega) (by omega)
                rw [hr2]
                exact ⟨_, rfl⟩
              · exact ⟨_, rfl⟩
            · exact ⟨_, rfl⟩
    refine ⟨?_, one⟩
    intro names k bad n hk hm hn
    obtain ⟨n, rfl⟩ : ∃ j, n = j + 1 := ⟨n - 1, by omega⟩
    simp only [arrowM]
    obtain ⟨⟨x, n1, k1, b1⟩, hr⟩ := one names k bad n hk hm (by omega)
    rw [hr]
    simp only [Option.bind_some]
    split
    · rename_i hM2
      have hle := ((tread_on l n).2 _ _ _ _ _ _ _ hr).1
      have hkl : k1 < l.length := by
        rcases Nat.lt_or_ge k1 l.length with h | h
        · exact h
        · simp only [isM, Bool.and_eq_true] at hM2
          have : tkAt l k1 = Tk.no := by simp [tkAt, List.getD_eq_getElem?_getD, List.getElem?_eq_none h]
          rw [this] at hM2
          have h2 := hM2.2
          simp [Tk.no] at h2
      have hk2 := isM_lt hG hkl hM2 (by decide) (by decide)
      obtain ⟨r2, hr2⟩ := ih.1 n1 (k1 + 1) b1 n hk2 (by omega) (by omega)
      rw [hr2]
      exact ⟨_, rfl⟩
    · exact ⟨_, rfl⟩
end Go.Proofs.YtleenphlgbklmabGreatDoor

namespace Go.Proofs.YtleenphlgbklmabGreatDoor
open Go.RowKit

mutual
theorem Ty.ind {P : Ty → Prop} (h : ∀ kd n kids, (∀ y, y ∈ kids → P y) → P (.mk kd n kids)) : ∀ x, P x
  | .mk kd n kids => h kd n kids (Ty.indL h kids)
theorem Ty.indL {P : Ty → Prop} (h : ∀ kd n kids, (∀ y, y ∈ kids → P y) → P (.mk kd n kids)) : ∀ (xs : List Ty) y, y ∈ xs → P y
  | [], y, hy => nomatch hy
  | x :: xs, y, hy => by
    rcases List.mem_cons.1 hy with e | e
    · rw [e]; exact Ty.ind h x
    · exact Ty.indL h xs y e
end

mutual
def sz : Ty → Nat
  | .mk _ _ kids => szs kids + 1
def szs : List Ty → Nat
  | [] => 0
  | x :: xs => sz x + szs xs
end
theorem szs_append (xs : List Ty) (y : Ty) : szs (xs ++ [y]) = szs xs + sz y := by
  induction xs with
  | nil => simp [szs]
  | cons x xs ih => simp only [List.cons_append, szs, ih]; omega
theorem szs_le {xs : List Ty} {y : Ty} (h : y ∈ xs) : sz y ≤ szs xs := by
  induction xs with
  | nil => cases h
  | cons x xs ih =>
    simp only [szs]
    rcases List.mem_cons.1 h with e | e
    · rw [e]; omega
    · have := ih e; omega
theorem szs_take_le (xs : List Ty) (q : Nat) : szs (xs.take q) ≤ szs xs := by
  induction xs generalizing q with
  | nil => simp
  | cons x xs ih =>
    cases q with
    | zero => simp [szs]
    | succ q => simp only [List.take_succ_cons, szs]; have := ih q; omega
def Ty.no : Ty := .mk { data := #[] } 0 []
theorem row_max {w : World} {B : Nat} {e : TypeId} {v : Value} {n : Nat} {ps : List Value} (h4 : w.ownsRow B e 1 v n ps) : n ≤ 9223372036854775807 := by
  rcases h4.2 with ⟨e1, e2⟩ | ⟨g, c', cur, e1, _, _, e4, e5, _⟩
  · omega
  · unfold maxLen at e5; omega

end Go.Proofs.YtleenphlgbklmabGreatDoor

namespace Go.Proofs.YtleenphlgbklmabGreatDoor
open Go.RowKit

/-- a type as it ought to be, of m variables. -/
inductive WT (m : Nat) : Ty → Prop
  | var (n : Nat) : n < m → WT m (.mk { data := #[] } n [])
  | int : WT m (.mk { data := #[105, 110, 116] } 0 [])
  | bool : WT m (.mk { data := #[98, 111, 111, 108] } 0 [])
  | list (a : Ty) : WT m a → WT m (.mk { data := #[108, 105, 115, 116] } 0 [a])
  | pair (a b : Ty) : WT m a → WT m b → WT m (.mk { data := #[112, 97, 105, 114] } 0 [a, b])
  | fn (a b : Ty) : WT m a → WT m b → WT m (.mk { data := #[102, 117, 110] } 0 [a, b])
theorem WT.up {m m' : Nat} (hm : m ≤ m') {t : Ty} (h : WT m t) : WT m' t := by
  induction h with
  | var n hn => exact .var n (by omega)
  | int => exact .int
  | bool => exact .bool
  | list a _ ih => exact .list a ih
  | pair a b _ _ iha ihb => exact .pair a b iha ihb
  | fn a b _ _ iha ihb => exact .fn a b iha ihb

theorem needB_negT {l : List Tk} {s : ByteArray} {k : Nat} {bad : Int} (h : needB l s k bad < 0) : bad < 0 ∧ isM l s k bad = true ∧ needB l s k bad = bad := by
  by_cases hb : 0 ≤ bad
  · rw [needB_geT hb] at h; omega
  · by_cases hM : isM l s k bad = true
    · exact ⟨by omega, hM, by unfold needB; rw [if_neg (by simp [hM])]⟩
    · exfalso
      unfold needB at h
      rw [if_pos (by simp [hM]; omega)] at h
      omega

theorem nameM_good (names : List ByteArray) (s : ByteArray) : (∃ u, (nameM names s).2 = names ++ u) ∧ WT (nameM names s).2.length (nameM names s).1 ∧ sz (nameM names s).1 = 1 := by
  unfold nameM
  split
  · rename_i j e
    have hj : j < names.length := by
      rw [List.findIdx?_eq_some_iff_getElem] at e
      exact e.1
    exact ⟨⟨[], by simp⟩, .var j hj, by simp [sz, szs]⟩
  · exact ⟨⟨[s], rfl⟩, .var _ (by simp), by simp [sz, szs]⟩

theorem tread_good (l : List Tk) : ∀ n, (∀ names k bad t names' k' bad', arrowM l n names k bad = some (t, names', k', bad') → bad' < 0 → bad < 0 ∧ sz t + k ≤ k' ∧ (∃ u, names' = names ++ u) ∧ WT names'.length t) ∧
    (∀ names k bad t names' k' bad', oneM l n names k bad = some (t, names', k', bad') → bad' < 0 → bad < 0 ∧ sz t + k ≤ k' ∧ (∃ u, names' = names ++ u) ∧ WT names'.length t) := by
  intro n
  induction n with
  | zero => exact ⟨fun _ _ _ _ _ _ _ h => by simp [arrowM] at h, fun _ _ _ _ _ _ _ h => by simp [oneM] at h⟩
  | succ n ih =>
    refine ⟨?_, ?_⟩
    · intro names k bad t names' k' bad' h hb
      simp only [arrowM] at h
      obtain ⟨⟨x, n1, k1, b1⟩, h1, h2⟩ := Option.bind_eq_some_iff.1 h
      simp only at h2
      split at h2
      · obtain ⟨⟨y, n2, k2, b2⟩, h3, h4⟩ := Option.bind_eq_some_iff.1 h2
        simp only [Option.some.injEq, Prod.mk.injEq] at h4
        obtain ⟨rfl, rfl, rfl, rfl⟩ := h4
        obtain ⟨i1, i2, ⟨u, rfl⟩, i4⟩ := ih.1 _ _ _ _ _ _ _ h3 hb
        obtain ⟨j1, j2, ⟨v, rfl⟩, j4⟩ := ih.2 _ _ _ _ _ _ _ h1 i1
        refine ⟨j1, ?_, ⟨v ++ u, by simp⟩, .fn x y (j4.up (by simp)) i4⟩
        simp only [sz, szs]
        omega
      · simp only [Option.some.injEq, Prod.mk.injEq] at h2
        obtain ⟨rfl, rfl, rfl, rfl⟩ := h2
        exact ih.2 _ _ _ _ _ _ _ h1 hb
    · intro names k bad t names' k' bad' h hb
      simp only [oneM] at h
      split at h
      · rename_i hM
        simp only [Option.some.injEq, Prod.mk.injEq] at h
        obtain ⟨rfl, rfl, rfl, rfl⟩ := h
        exact ⟨hb, by simp [sz, szs]; omega, ⟨[], by simp⟩, .int⟩
      · split at h
        · simp only [Option.some.injEq, Prod.mk.injEq] at h
          obtain ⟨rfl, rfl, rfl, rfl⟩ := h
          exact ⟨hb, by simp [sz, szs]; omega, ⟨[], by simp⟩, .bool⟩
        · split at h
          · obtain ⟨⟨x, n1, k1, b1⟩, h1, h2⟩ := Option.bind_eq_some_iff.1 h
            simp only [Option.some.injEq, Prod.mk.injEq] at h2
            obtain ⟨rfl, rfl, rfl, rfl⟩ := h2
            obtain ⟨q1, q2, q3⟩ := needB_negT hb
            obtain ⟨i1, i2, i3, i4⟩ := ih.1 _ _ _ _ _ _ _ h1 q1
            refine ⟨i1, ?_, i3, .list x i4⟩
            unfold takeK
            rw [if_pos q2]
            simp only [sz, szs]
            omega
          · split at h
            · obtain ⟨⟨x, n1, k1, b1⟩, h1, h2⟩ := Option.bind_eq_some_iff.1 h
              simp only at h2
              split at h2
              · obtain ⟨⟨y, n2, k2, b2⟩, h3, h4⟩ := Option.bind_eq_some_iff.1 h2
                simp only [Option.some.injEq, Prod.mk.injEq] at h4
                obtain ⟨rfl, rfl, rfl, rfl⟩ := h4
                obtain ⟨q1, q2, q3⟩ := needB_negT hb
                obtain ⟨i1, i2, ⟨u, rfl⟩, i4⟩ := ih.1 _ _ _ _ _ _ _ h3 q1
                obtain ⟨j1, j2, ⟨v, rfl⟩, j4⟩ := ih.1 _ _ _ _ _ _ _ h1 i1
                refine ⟨j1, ?_, ⟨v ++ u, by simp⟩, .pair x y (j4.up (by simp)) i4⟩
                unfold takeK
                rw [if_pos q2]
                simp only [sz, szs]
                omega
              · simp only [Option.some.injEq, Prod.mk.injEq] at h2
                obtain ⟨rfl, rfl, rfl, rfl⟩ := h2
                obtain ⟨q1, q2, q3⟩ := needB_negT hb
                obtain ⟨i1, i2, i3, i4⟩ := ih.1 _ _ _ _ _ _ _ h1 q1
                refine ⟨i1, ?_, i3, i4⟩
                unfold takeK
                rw [if_pos q2]
                omega
            · simp only [Option.some.injEq, Prod.mk.injEq] at h
              obtain ⟨rfl, rfl, rfl, rfl⟩ := h
              obtain ⟨q1, q2, q3⟩ := needB_negT hb
              obtain ⟨g1, g2, g3⟩ := nameM_good names (tkAt l k).s
              refine ⟨q1, ?_, g1, g2⟩
              unfold takeK
              rw [if_pos q2, g3]
              omega
end Go.Proofs.YtleenphlgbklmabGreatDoor
