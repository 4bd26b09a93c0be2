import Derived.Test.YtleenphlgbklmaaGreatDoorRWOneN
import Derived.Test.YtleenphlgbklmaaGreatDoorRWTake
import Derived.Test.YtleenphlgbklmaaGreatDoorRWDeep
set_option linter.unusedVariables false
set_option linter.unusedSimpArgs false
namespace Go.Proofs.YtleenphlgbklmaaGreatDoor
open Go.RowKit

theorem tref_all (l : List Tk) (hl : l.length ≤ 1000) (hG : Good l) (n : Nat) : SArr l n ∧ SOne l n := by
  induction n with
  | zero =>
    refine ⟨?_, ?_⟩
    · intro w rb tb c k bad nb B names t names' k' bad' h hk hn hr ht hok hM
      simp [arrowM] at hM
    · intro w rb tb c k bad nb B names t names' k' bad' h hk hn hr ht hok hM
      simp [oneM] at hM
  | succ n ih =>
    refine ⟨arr_step l hl hG n ih.1 ih.2, ?_⟩
    intro w rb tb c k bad nb B names t names' k' bad' h hk hn hr ht hok hM
    cases h0 : isM l { data := #[105, 110, 116] } k bad
    · cases h1 : isM l { data := #[98, 111, 111, 108] } k bad
      · cases h2 : isM l { data := #[91] } k bad
        · cases h3 : isM l { data := #[40] } k bad
          · exact one_name l hl hG n ih.1 w rb tb c k bad nb B names t names' k' bad' h hk hn hr ht hok h0 h1 h2 h3 hM
          · exact one_br l hl hG n ih.1 w rb tb c k bad nb B names t names' k' bad' h hk hn hr ht hok h0 h1 h2 h3 hM
        · exact one_list l hl hG n ih.1 w rb tb c k bad nb B names t names' k' bad' h hk hn hr ht hok h0 h1 h2 hM
      · exact one_bool l hl hG n ih.1 w rb tb c k bad nb B names t names' k' bad' h hk hn hr ht hok h0 h1 hM
    · exact one_int l hl hG n ih.1 w rb tb c k bad nb B names t names' k' bad' h hk hn hr ht hok h0 hM

/-- the place goes on; a fault stays. -/
theorem needB_geT {l : List Tk} {s : ByteArray} {k : Nat} {bad : Int} (h : 0 ≤ bad) : needB l s k bad = bad := by
  unfold needB
  rw [if_neg (by simp; omega)]
theorem isM_geT {l : List Tk} {s : ByteArray} {k : Nat} {bad : Int} (h : 0 ≤ bad) : isM l s k bad = false := by
  unfold isM
  have : decide (bad < 0) = false := by simp; omega
  rw [this]; rfl
theorem takeK_geT {l : List Tk} {s : ByteArray} {k : Nat} {bad : Int} : k ≤ takeK l s k bad := by
  unfold takeK; split <;> omega

/-- a fault, or a place further on. -/
theorem tread_on (l : List Tk) : ∀ n, (∀ names k bad t names' k' bad', arrowM l n names k bad = some (t, names', k', bad') → k ≤ k' ∧ (k < k' ∨ 0 ≤ bad')) ∧
    (∀ names k bad t names' k' bad', oneM l n names k bad = some (t, names', k', bad') → k ≤ k' ∧ (k < k' ∨ 0 ≤ bad')) := by
  intro n
  induction n with
  | zero => exact ⟨fun _ _ _ _ _ _ _ h => by simp [arrowM] at h, fun _ _ _ _ _ _ _ h => by simp [oneM] at h⟩
  | succ n ih =>
    refine ⟨?_, ?_⟩
    · intro names k bad t names' k' bad' h
      simp only [arrowM] at h
      obtain ⟨⟨x, n1, k1, b1⟩, h1, h2⟩ := Option.bind_eq_some_iff.1 h
      have g1 := ih.2 _ _ _ _ _ _ _ h1
      simp only at h2
      split at h2
      · obtain ⟨⟨y, n2, k2, b2⟩, h3, h4⟩ := Option.bind_eq_some_iff.1 h2
        have g2 := ih.1 _ _ _ _ _ _ _ h3
        simp only [Option.some.injEq, Prod.mk.injEq] at h4
        obtain ⟨_, _, rfl, rfl⟩ := h4
        exact ⟨by omega, Or.inl (by omega)⟩
      · simp only [Option.some.injEq, Prod.mk.injEq] at h2
        obtain ⟨_, _, rfl, rfl⟩ := h2
        exact g1
    · intro names k bad t names' k' bad' h
      simp only [oneM] at h
      split at h
      · simp only [Option.some.injEq, Prod.mk.injEq] at h
        obtain ⟨_, _, rfl, rfl⟩ := h
        exact ⟨by omega, Or.inl (by omega)⟩
      · split at h
        · simp only [Option.some.injEq, Prod.mk.injEq] at h
          obtain ⟨_, _, rfl, rfl⟩ := h
          exact ⟨by omega, Or.inl (by omega)⟩
        · split at h
          · obtain ⟨⟨x, n1, k1, b1⟩, h1, h2⟩ := Option.bind_eq_some_iff.1 h
            have g1 := ih.1 _ _ _ _ _ _ _ h1
            simp only [Option.some.injEq, Prod.mk.injEq] at h2
            obtain ⟨_, _, rfl, rfl⟩ := h2
            have := takeK_geT (l := l) (s := { data := #[93] }) (k := k1) (bad := b1)
            exact ⟨by omega, Or.inl (by omega)⟩
          · split at h
            · obtain ⟨⟨x, n1, k1, b1⟩, h1, h2⟩ := Option.bind_eq_some_iff.1 h
              have g1 := ih.1 _ _ _ _ _ _ _ h1
              simp only at h2
              split at h2
              · obtain ⟨⟨y, n2, k2, b2⟩, h3, h4⟩ := Option.bind_eq_some_iff.1 h2
                have g2 := ih.1 _ _ _ _ _ _ _ h3
                simp only [Option.some.injEq, Prod.mk.injEq] at h4
                obtain ⟨_, _, rfl, rfl⟩ := h4
                have := takeK_geT (l := l) (s := { data := #[41] }) (k := k2) (bad := b2)
                exact ⟨by omega, Or.inl (by omega)⟩
              · simp only [Option.some.injEq, Prod.mk.injEq] at h2
                obtain ⟨_, _, rfl, rfl⟩ := h2
                have := takeK_geT (l := l) (s := { data := #[41] }) (k := k1) (bad := b1)
                exact ⟨by omega, Or.inl (by omega)⟩
            · simp only [Option.some.injEq, Prod.mk.injEq] at h
              obtain ⟨_, _, rfl, rfl⟩ := h
              refine ⟨takeK_geT, ?_⟩
              by_cases hb : 0 ≤ bad
              · exact Or.inr (by rw [needB_geT hb]; exact hb)
              · by_cases hM : isM l { data := #[110, 97, 109, 101] } k bad = true
                · exact Or.inl (by unfold takeK; rw [if_pos hM]; omega)
                · refine Or.inr ?_
                  unfold needB
                  rw [if_pos (by simp [hM]; omega)]
                  omega

/-- so much fuel is enough. -/
theorem tread_total (l : List Tk) (hG : Good l) : ∀ m, (∀ names k bad n, k < l.length → l.length - k ≤ m → 2 * m + 2 ≤ n → ∃ r, arrowM l n names k bad = some r) ∧
    (∀ names k bad n, k < l.length → l.length - k ≤ m → 2 * m + 1 ≤ n → ∃ r, oneM l n names k bad = some r) := by
  intro m
  induction m with
  | zero => exact ⟨fun _ k _ _ hk h => by omega, fun _ k _ _ hk h => by omega⟩
  | succ m ih =>
    have one : ∀ names k bad n, k < l.length → l.length - k ≤ m + 1 → 2 * (m + 1) + 1 ≤ n → ∃ r, oneM l n names k bad = some r := by
      intro names k bad n hk hm hn
      obtain ⟨n, rfl⟩ : ∃ j, n = j + 1 := ⟨n - 1, by omega⟩
      simp only [oneM]
      split
      · exact ⟨_, rfl⟩
      · split
        · exact ⟨_, rfl⟩
        · split
          · rename_i hM
            have hk1 := isM_lt hG hk hM (by decide) (by decide)
            obtain ⟨r, hr⟩ := ih.1 names (k + 1) bad n hk1 (by omega) (by omega)
            rw [hr]
            exact ⟨_, rfl⟩
          · split
            · rename_i hM
              have hk1 := isM_lt hG hk hM (by decide) (by decide)
              obtain ⟨⟨x, n1, k1, b1⟩, hr⟩ := ih.1 names (k + 1) bad n hk1 (by omega) (by omega)
              rw [hr]
              simp only [Option.bind_some]
              split
              · rename_i hM2
                have hle := ((tread_on l n).1 _ _ _ _ _ _ _ hr).1
                have hkl : k1 < l.length := by
                  rcases Nat.lt_or_ge k1 l.length with h | h
                  · exact h
                  · simp only [isM, Bool.and_eq_true] at hM2
                    have : tkAt l k1 = Tk.no := by simp [tkAt, List.getD_eq_getElem?_getD, List.getElem?_eq_none h]
                    rw [this] at hM2
                    have h2 := hM2.2
                    simp [Tk.no] at h2
                have hk2 := isM_lt hG hkl hM2 (by decide) (by decide)
                obtain ⟨r2, hr2⟩ := ih.1 n1 (k1 + 1) b1 n hk2 (by omega) (by omega)
                rw [hr2]
                exact ⟨_, rfl⟩
              · exact ⟨_, rfl⟩
            · exact ⟨_, rfl⟩
    refine ⟨?_, one⟩
    intro names k bad n hk hm hn
    obtain ⟨n, rfl⟩ : ∃ j, n = j + 1 := ⟨n - 1, by omega⟩
    simp only [arrowM]
    obtain ⟨⟨x, n1, k1, b1⟩, hr⟩ := one names k bad n hk hm (by omega)
    rw [hr]
    simp only [Option.bind_some]
    split
    · rename_i hM2
      have hle := ((tread_on l n).2 _ _ _ _ _ _ _ hr).1
      have hkl : k1 < l.length := by
        rcases Nat.lt_or_ge k1 l.length with h | h
        · exact h
        · simp only [isM, Bool.and_eq_true] at hM2
          have : tkAt l k1 = Tk.no := by simp [tkAt, List.getD_eq_getElem?_getD, List.getElem?_eq_none h]
          rw [this] at hM2
          have h2 := hM2.2
          simp [Tk.no] at h2
      have hk2 := isM_lt hG hkl hM2 (by decide) (by decide)
      obtain ⟨r2, hr2⟩ := ih.1 n1 (k1 + 1) b1 n hk2 (by omega) (by omega)
      rw [hr2]
      exact ⟨_, rfl⟩
    · exact ⟨_, rfl⟩
end Go.Proofs.YtleenphlgbklmaaGreatDoor

namespace Go.Proofs.YtleenphlgbklmaaGreatDoor
open Go.RowKit

mutual
theorem Ty.ind {P : Ty → Prop} (h : ∀ kd n kids, (∀ y, y ∈ kids → P y) → P (.mk kd n kids)) : ∀ x, P x
  | .mk kd n kids => h kd n kids (Ty.indL h kids)
theorem Ty.indL {P : Ty → Prop} (h : ∀ kd n kids, (∀ y, y ∈ kids → P y) → P (.mk kd n kids)) : ∀ (xs : List Ty) y, y ∈ xs → P y
  | [], y, hy => nomatch hy
  | x :: xs, y, hy => by
    rcases List.mem_cons.1 hy with e | e
    · rw [e]; exact Ty.ind h x
    · exact Ty.indL h xs y e
end

mutual
def sz : Ty → Nat
  | .mk _ _ kids => szs kids + 1
def szs : List Ty → Nat
  | [] => 0
  | x :: xs => sz x + szs xs
end
theorem szs_append (xs : List Ty) (y : Ty) : szs (xs ++ [y]) = szs xs + sz y := by
  induction xs with
  | nil => simp [szs]
  | cons x xs ih => simp only [List.cons_append, szs, ih]; omega
theorem szs_le {xs : List Ty} {y : Ty} (h : y ∈ xs) : sz y ≤ szs xs := by
  induction xs with
  | nil => cases h
  | cons x xs ih =>
    simp only [szs]
    rcases List.mem_cons.1 h with e | e
    · rw [e]; omega
    · have := ih e; omega
theorem szs_take_le (xs : List Ty) (q : Nat) : szs (xs.take q) ≤ szs xs := by
  induction xs generalizing q with
  | nil => simp
  | cons x xs ih =>
    cases q with
    | zero => simp [szs]
    | succ q => simp only [List.take_succ_cons, szs]; have := ih q; omega
def Ty.no : Ty := .mk { data := #[] } 0 []
theorem TReps.at {w : World} {ts : List Ty} {ps : List Value} (h : TReps w ts ps) (q : Nat) (hq : q < ts.length) : TRep w (ts.getD q Ty.no) (ps.getD q (.pointer none)) := by
  obtain ⟨p, h1, h2⟩ := h.get q ts[q] (List.getElem?_eq_getElem hq)
  simpa [List.getD, hq, h1] using h2
theorem row_max {w : World} {B : Nat} {e : TypeId} {v : Value} {n : Nat} {ps : List Value} (h4 : w.ownsRow B e 1 v n ps) : n ≤ 9223372036854775807 := by
  rcases h4.2 with ⟨e1, e2⟩ | ⟨g, c', cur, e1, _, _, e4, e5, _⟩
  · omega
  · unfold maxLen at e5; omega

set_option maxHeartbeats 1000000 in
theorem size_any (x : Ty) : ∀ (w : World) (v : Value), TRep w x v → sz x ≤ 1000000 →
    Calls Tryz.prog 46 #[v] w fun e w' => e = .returned (.int .i64 (sz x)) ∧ w' = w := by
  induction x using Ty.ind with
  | h kd n kids ih =>
    intro w v h hd
    simp only [TRep] at h
    obtain ⟨b, lv, ps, rfl, h2, h4, h5⟩ := h
    obtain ⟨ao, cap, rfl, hrow⟩ := row_form h4
    have hlen := h5.len
    have c2 : w.cell? ⟨b, 2, none⟩ = some (.slice ao ps.length cap) := by simp [World.cell?, h2]
    have hdp : sz (.mk kd n kids) = szs kids + 1 := by simp [sz]
    rw [hdp] at hd ⊢
    have hml := row_max h4
    have HL : Hid (ps.length = kids.length) := hlen
    clear hlen hdp h2 h4
    go_enter Tryz.func46, Tryz.ntmps46
    go_wp2
    clear c2
    go_loop [3, 11] (fun n i => ∃ q : Nat, q ≤ ps.length ∧ i = .int .i64 q ∧ n = .int .i64 (szs (kids.take q) + 1 : Nat)) (fun _ i => ps.length - (intOf i).toNat)
    case atStart => exact ⟨0, Nat.zero_le _, rfl, by simp [szs]⟩
    case round =>
      obtain ⟨q, hq, rfl, rfl⟩ := hrel
      by_cases hlt : q < ps.length
      · obtain ⟨g, rfl, hc⟩ := hrow q hlt
        have hqk : q < kids.length := by rw [← HL.out]; exact hlt
        have hf := h5.at q hqk
        have hc2 : w.cell? ⟨g, q, none⟩ = some (ps.getD q (.pointer none)) := by rw [hc]; simp [List.getD, hlt]
        have hmem : kids.getD q Ty.no ∈ kids := by simp [List.getD, hqk]
        have hle := szs_le hmem
        have ihq := ih _ hmem w _ hf (by omega)
        have hst : Hid (szs (kids.take (q + 1)) = szs (kids.take q) + sz (kids.getD q Ty.no)) := by
          show _ = _
          rw [List.take_succ_eq_append_getElem hqk, szs_append]
          simp [List.getD, hqk]
        have htl := szs_take_le kids q
        have htl2 := szs_take_le kids (q + 1)
        rw [hst.out] at htl2
        clear hc hrow ih h5 hmem hf
        generalize ps.getD q (.pointer none) = p at *
        generalize sz (kids.getD q Ty.no) = d at *
        generalize szs (kids.take q) = nq at *
        have IH : Hid (Calls Tryz.prog 46 #[p] w fun e w' => e = .returned (.int .i64 d) ∧ w' = w) := ihq
        clear ihq
        go_wp2_with fail
        refine Calls.mono (Hid.out IH) ?_
        rintro e w' ⟨rfl, rfl⟩
        go_wp2
        go_round
        case rel => exact ⟨q + 1, by omega, by go_num, by rw [hst.out]; go_num⟩
        case measure => simp [intOf]; omega
      · have hq2 : q = kids.length := by rw [← HL.out]; omega
        have hk : Hid (kids.take q = kids) := by show _ = _; rw [hq2, List.take_length]
        have hle := szs_take_le kids q
        clear ih h5 hrow hq2
        go_wp2
        go_ret
        exact ⟨by rw [hk.out]; rfl, rfl⟩
end Go.Proofs.YtleenphlgbklmaaGreatDoor

namespace Go.Proofs.YtleenphlgbklmaaGreatDoor
open Go.RowKit

/-- a type as it ought to be, of m variables. -/
inductive WT (m : Nat) : Ty → Prop
  | var (n : Nat) : n < m → WT m (.mk { data := #[] } n [])
  | int : WT m (.mk { data := #[105, 110, 116] } 0 [])
  | bool : WT m (.mk { data := #[98, 111, 111, 108] } 0 [])
  | list (a : Ty) : WT m a → WT m (.mk { data := #[108, 105, 115, 116] } 0 [a])
  | pair (a b : Ty) : WT m a → WT m b → WT m (.mk { data := #[112, 97, 105, 114] } 0 [a, b])
  | fn (a b : Ty) : WT m a → WT m b → WT m (.mk { data := #[102, 117, 110] } 0 [a, b])
theorem WT.up {m m' : Nat} (hm : m ≤ m') {t : Ty} (h : WT m t) : WT m' t := by
  induction h with
  | var n hn => exact .var n (by omega)
  | int => exact .int
  | bool => exact .bool
  | list a _ ih => exact .list a ih
  | pair a b _ _ iha ihb => exact .pair a b iha ihb
  | fn a b _ _ iha ihb => exact .fn a b iha ihb

theorem needB_negT {l : List Tk} {s : ByteArray} {k : Nat} {bad : Int} (h : needB l s k bad < 0) : bad < 0 ∧ isM l s k bad = true ∧ needB l s k bad = bad := by
  by_cases hb : 0 ≤ bad
  · rw [needB_geT hb] at h; omega
  · by_cases hM : isM l s k bad = true
    · exact ⟨by omega, hM, by unfold needB; rw [if_neg (by simp [hM])]⟩
    · exfalso
      unfold needB at h
      rw [if_pos (by simp [hM]; omega)] at h
      omega

theorem nameM_good (names : List ByteArray) (s : ByteArray) : (∃ u, (nameM names s).2 = names ++ u) ∧ WT (nameM names s).2.length (nameM names s).1 ∧ sz (nameM names s).1 = 1 := by
  unfold nameM
  split
  · rename_i j e
    have hj : j < names.length := by
      rw [List.findIdx?_eq_some_iff_getElem] at e
      exact e.1
    exact ⟨⟨[], by simp⟩, .var j hj, by simp [sz, szs]⟩
  · exact ⟨⟨[s], rfl⟩, .var _ (by simp), by simp [sz, szs]⟩

theorem tread_good (l : List Tk) : ∀ n, (∀ names k bad t names' k' bad', arrowM l n names k bad = some (t, names', k', bad') → bad' < 0 → bad < 0 ∧ sz t + k ≤ k' ∧ (∃ u, names' = names ++ u) ∧ WT names'.length t) ∧
    (∀ names k bad t names' k' bad', oneM l n names k bad = some (t, names', k', bad') → bad' < 0 → bad < 0 ∧ sz t + k ≤ k' ∧ (∃ u, names' = names ++ u) ∧ WT names'.length t) := by
  intro n
  induction n with
  | zero => exact ⟨fun _ _ _ _ _ _ _ h => by simp [arrowM] at h, fun _ _ _ _ _ _ _ h => by simp [oneM] at h⟩
  | succ n ih =>
    refine ⟨?_, ?_⟩
    · intro names k bad t names' k' bad' h hb
      simp only [arrowM] at h
      obtain ⟨⟨x, n1, k1, b1⟩, h1, h2⟩ := Option.bind_eq_some_iff.1 h
      simp only at h2
      split at h2
      · obtain ⟨⟨y, n2, k2, b2⟩, h3, h4⟩ := Option.bind_eq_some_iff.1 h2
        simp only [Option.some.injEq, Prod.mk.injEq] at h4
        obtain ⟨rfl, rfl, rfl, rfl⟩ := h4
        obtain ⟨i1, i2, ⟨u, rfl⟩, i4⟩ := ih.1 _ _ _ _ _ _ _ h3 hb
        obtain ⟨j1, j2, ⟨v, rfl⟩, j4⟩ := ih.2 _ _ _ _ _ _ _ h1 i1
        refine ⟨j1, ?_, ⟨v ++ u, by simp⟩, .fn x y (j4.up (by simp)) i4⟩
        simp only [sz, szs]
        omega
      · simp only [Option.some.injEq, Prod.mk.injEq] at h2
        obtain ⟨rfl, rfl, rfl, rfl⟩ := h2
        exact ih.2 _ _ _ _ _ _ _ h1 hb
    · intro names k bad t names' k' bad' h hb
      simp only [oneM] at h
      split at h
      · rename_i hM
        simp only [Option.some.injEq, Prod.mk.injEq] at h
        obtain ⟨rfl, rfl, rfl, rfl⟩ := h
        exact ⟨hb, by simp [sz, szs]; omega, ⟨[], by simp⟩, .int⟩
      · split at h
        · simp only [Option.some.injEq, Prod.mk.injEq] at h
          obtain ⟨rfl, rfl, rfl, rfl⟩ := h
          exact ⟨hb, by simp [sz, szs]; omega, ⟨[], by simp⟩, .bool⟩
        · split at h
          · obtain ⟨⟨x, n1, k1, b1⟩, h1, h2⟩ := Option.bind_eq_some_iff.1 h
            simp only [Option.some.injEq, Prod.mk.injEq] at h2
            obtain ⟨rfl, rfl, rfl, rfl⟩ := h2
            obtain ⟨q1, q2, q3⟩ := needB_negT hb
            obtain ⟨i1, i2, i3, i4⟩ := ih.1 _ _ _ _ _ _ _ h1 q1
            refine ⟨i1, ?_, i3, .list x i4⟩
            unfold takeK
            rw [if_pos q2]
            simp only [sz, szs]
            omega
          · split at h
            · obtain ⟨⟨x, n1, k1, b1⟩, h1, h2⟩ := Option.bind_eq_some_iff.1 h
              simp only at h2
              split at h2
              · obtain ⟨⟨y, n2, k2, b2⟩, h3, h4⟩ := Option.bind_eq_some_iff.1 h2
                simp only [Option.some.injEq, Prod.mk.injEq] at h4
                obtain ⟨rfl, rfl, rfl, rfl⟩ := h4
                obtain ⟨q1, q2, q3⟩ := needB_negT hb
                obtain ⟨i1, i2, ⟨u, rfl⟩, i4⟩ := ih.1 _ _ _ _ _ _ _ h3 q1
                obtain ⟨j1, j2, ⟨v, rfl⟩, j4⟩ := ih.1 _ _ _ _ _ _ _ h1 i1
                refine ⟨j1, ?_, ⟨v ++ u, by simp⟩, .pair x y (j4.up (by simp)) i4⟩
                unfold takeK
                rw [if_pos q2]
                simp only [sz, szs]
                omega
              · simp only [Option.some.injEq, Prod.mk.injEq] at h2
                obtain ⟨rfl, rfl, rfl, rfl⟩ := h2
                obtain ⟨q1, q2, q3⟩ := needB_negT hb
                obtain ⟨i1, i2, i3, i4⟩ := ih.1 _ _ _ _ _ _ _ h1 q1
                refine ⟨i1, ?_, i3, i4⟩
                unfold takeK
                rw [if_pos q2]
                omega
            · simp only [Option.some.injEq, Prod.mk.injEq] at h
              obtain ⟨rfl, rfl, rfl, rfl⟩ := h
              obtain ⟨q1, q2, q3⟩ := needB_negT hb
              obtain ⟨g1, g2, g3⟩ := nameM_good names (tkAt l k).s
              refine ⟨q1, ?_, g1, g2⟩
              unfold takeK
              rw [if_pos q2, g3]
              omega
end Go.Proofs.YtleenphlgbklmaaGreatDoor
