import Derived.Test.YtleenphlgbklmabGreatDoorXPMatC
import Derived.Test.YtleenphlgbklmabGreatDoorXPIter
import Derived.Test.YtleenphlgbklmabGreatDoorXWCanon
set_option linter.unusedVariables false
set_option linter.unusedSimpArgs false
namespace Go.Proofs.YtleenphlgbklmabGreatDoor
open Go.RowKit

theorem run_all (p : Int → Bool) (s : ByteArray) : ∀ n i, s.size - i = n → ∀ k, i ≤ k → k < run p s i → k < s.size ∧ p (chr s k) = true := by
  intro n
  induction n with
  | zero =>
    intro i hi k h1 h2
    rw [run_stop p s i (fun z => by omega)] at h2
    omega
  | succ n ih =>
    intro i hi k h1 h2
    cases hp : p (chr s i) with
    | false =>
      rw [run_stop p s i (fun _ => hp)] at h2
      omega
    | true =>
      by_cases e : k = i
      · subst e
        exact ⟨by omega, hp⟩
      · rw [run_step p s i (by omega) hp] at h2
        exact ih (i + 1) (by omega) k (by omega) h2
theorem name_tok {s : ByteArray} {L : List Tk} (hE : PEnv s tyWords L) (k : Nat) (hk : k < L.length) (hn : (tkAt L k).is = { data := #[110, 97, 109, 101] }) :
    (tkAt L k).s ≠ { data := #[] } ∧ (tkAt L k).s ≠ { data := #[105, 110, 116] } ∧ (tkAt L k).s ≠ { data := #[98, 111, 111, 108] } ∧ (∀ c, c ∈ (tkAt L k).s.data.toList → isW c = true) ∧ 0 < (tkAt L k).s.size ∧ (tkAt L k).s.size ≤ 300 := by
  have hkw : ∀ w, w ∈ tyWords → w ≠ { data := #[110, 97, 109, 101] } := fun w hw => (tyWordsOk.ne w hw).1
  obtain ⟨j, hj, e⟩ := (toks_next s tyWords hkw (s.size + 1) 0 (Nat.zero_le _) k (by rw [← hE.eq]; exact hk)).2.2.1
  rw [← hE.eq] at e
  rw [e] at hn ⊢
  have hl := tok_link s tyWords hkw j hj
  have hw : j < s.size ∧ lowI (chr s j) = true ∧ kwIn tyWords (tok1 s tyWords j).1.s = false := by
    cases hl with
    | fin _ h1 _ _ _ => rw [h1] at hn; exact absurd hn (by decide)
    | bad h1 _ => rw [h1] at hn; exact absurd hn (by decide)
    | num _ _ _ _ h1 => rw [h1] at hn; exact absurd hn (by decide)
    | sign h0 _ _ _ h1 h2 =>
      rw [h1] at hn
      rcases h2 with h2 | ⟨h, h2, _⟩
      · rw [h2] at hn; exact absurd hn (by decide)
      · rw [h2] at hn
        have : (⟨#[s[j]]⟩ : ByteArray).size = ({ data := #[110, 97, 109, 101] } : ByteArray).size := by rw [hn]
        exact absurd this (by show ¬ (1 = 4); omega)
    | word h0 h1 _ h2 =>
      refine ⟨h0, h1, ?_⟩
      cases hc : kwIn tyWords (tok1 s tyWords j).1.s with
      | false => rfl
      | true =>
        rw [hc, if_pos rfl] at h2
        rw [h2] at hn
        exact absurd hn (hkw _ (kwIn_mem hc))
  obtain ⟨h0, h1, h2⟩ := hw
  have hK : clsK s j = run lfI s j := by rw [clsK, if_pos h0, if_pos h1]
  have hs : (tok1 s tyWords j).1.s = s.extract j (run lfI s j) := by show s.extract j (clsK s j) = _; rw [hK]
  have hgt := run_gt lfI s j h0 (by unfold lfI; rw [h1]; rfl)
  have hle := run_le lfI s j (by omega)
  have hsz : (s.extract j (run lfI s j)).size = run lfI s j - j := by simp [ByteArray.size_extract]; omega
  have hnk : ∀ w, w ∈ tyWords → s.extract j (run lfI s j) ≠ w := fun w hw z => by
    rw [hs, z] at h2
    have : kwIn tyWords w = true := by
      unfold kwIn
      rw [List.any_eq_true]
      exact ⟨w, hw, (sameS_iff w w).2 rfl⟩
    rw [this] at h2
    cases h2
  rw [hs]
  refine ⟨fun z => by rw [z] at hsz; have : ({ data := #[] } : ByteArray).size = 0 := rfl; omega, hnk _ (by simp [tyWords]), hnk _ (by simp [tyWords]), ?_, by omega, by have := hE.sz; omega⟩
  intro c hc
  obtain ⟨q, hq, rfl⟩ := List.getElem_of_mem hc
  have hq' : q < run lfI s j - j := by
    have e2 : (s.extract j (run lfI s j)).data.toList.length = (s.extract j (run lfI s j)).size := by rw [Array.length_toList]; rfl
    omega
  obtain ⟨hb, hp⟩ := run_all lfI s _ j rfl (j + q) (by omega) (by omega)
  have hc2 := chr_eq s (j + q) hb
  have e3 : (s.extract j (run lfI s j)).data.toList[q] = s[j + q] := by
    simp only [ByteArray.data_extract]
    simp
    rfl
  rw [e3]
  unfold lfI lowI figI at hp
  unfold isW
  rw [← hc2] at hp
  simp only [Bool.or_eq_true, Bool.and_eq_true, decide_eq_true_eq] at hp ⊢
  omega
inductive Occ (i : Nat) : Ty → Prop
  | var : Occ i (.mk { data := #[] } i [])
  | kid (k : ByteArray) (n : Nat) (l : List Ty) (a : Ty) : a ∈ l → Occ i a → Occ i (.mk k n l)
/-- what names a reading has added. -/
def NAdd (l : List Tk) (names names' : List ByteArray) (t : Ty) : Prop := (∃ u, names' = names ++ u ∧ ∀ m, m ∈ u → ∃ j, j < l.length ∧ (tkAt l j).is = { data := #[110, 97, 109, 101] } ∧ (tkAt l j).s = m) ∧ ∀ i, names.length ≤ i → i < names'.length → Occ i t
theorem needB_negN {l : List Tk} {w : ByteArray} {k : Nat} {bad : Int} (h : needB l w k bad < 0) : bad < 0 ∧ isM l w k bad = true := by
  unfold needB at h
  split at h
  · omega
  · rename_i e
    simp only [Bool.and_eq_true, Bool.not_eq_true', decide_eq_true_eq, not_and, Bool.not_eq_false] at e
    refine ⟨h, ?_⟩
    cases hM : isM l w k bad with
    | true => rfl
    | false => exact absurd h (e hM)
theorem isM_is {l : List Tk} {w : ByteArray} {k : Nat} {bad : Int} (h : isM l w k bad = true) : (tkAt l k).is = w := by
  unfold isM at h
  simp only [Bool.and_eq_true, decide_eq_true_eq, beq_iff_eq] at h
  exact ByteArray.ext (Array.toList_inj.1 h.2)
theorem NAdd.two {l : List Tk} {n0 n1 n2 : List ByteArray} {a b : Ty} (k : ByteArray) (h : NAdd l n0 n1 a) (g : NAdd l n1 n2 b) : NAdd l n0 n2 (.mk k 0 [a, b]) := by
  obtain ⟨⟨u, rfl, hu⟩, h2⟩ := h
  obtain ⟨⟨v, rfl, hv⟩, g2⟩ := g
  refine ⟨⟨u ++ v, by simp, fun m hm => ?_⟩, fun i h1 h3 => ?_⟩
  · simp at hm
    rcases hm with hm | hm
    · exact hu m hm
    · exact hv m hm
  · by_cases e : i < (n0 ++ u).length
    · exact .kid _ _ _ a (by simp) (h2 i h1 e)
    · exact .kid _ _ _ b (by simp) (g2 i (by omega) h3)
theorem NAdd.one {l : List Tk} {n0 n1 : List ByteArray} {a : Ty} (k : ByteArray) (h : NAdd l n0 n1 a) : NAdd l n0 n1 (.mk k 0 [a]) := ⟨h.1, fun i h1 h2 => .kid _ _ _ a (by simp) (h.2 i h1 h2)⟩
theorem NAdd.none (l : List Tk) (n0 : List ByteArray) (a : Ty) : NAdd l n0 n0 a := ⟨⟨[], by simp, by simp⟩, fun i h1 h2 => by omega⟩
theorem tnames (l : List Tk) (hG : Good l) : ∀ n, (∀ names k bad t names' k' bad', arrowM l n names k bad = some (t, names', k', bad') → k < l.length → NmOk l names → bad' < 0 → NAdd l names names' t) ∧
    (∀ names k bad t names' k' bad', oneM l n names k bad = some (t, names', k', bad') → k < l.length → NmOk l names → bad' < 0 → NAdd l names names' t) := by
  intro n
  induction n with
  | zero => exact ⟨fun _ _ _ _ _ _ _ h => by simp [arrowM] at h, fun _ _ _ _ _ _ _ h => by simp [oneM] at h⟩
  | succ n ih =>
    have hok := tread_ok l hG n
    have hbad := tread_bad l n
    refine ⟨?_, ?_⟩
    · intro names k bad t names' k' bad' h hk ho hb
      simp only [arrowM] at h
      obtain ⟨⟨x, n1, k1, b1⟩, h1, h2⟩ := Option.bind_eq_some_iff.1 h
      obtain ⟨hk1, ho1⟩ := hok.2 _ _ _ _ _ _ _ h1 hk ho
      simp only at h2
      split at h2
      · rename_i hM
        obtain ⟨⟨y, n2, k2, b2⟩, h3, h4⟩ := Option.bind_eq_some_iff.1 h2
        simp only [Option.some.injEq, Prod.mk.injEq] at h4
        obtain ⟨rfl, rfl, rfl, rfl⟩ := h4
        have hlt := isM_lt hG hk1 hM (by decide) (by decide)
        have e2 := (hbad.1 _ _ _ _ _ _ _ h3).2 hb
        exact (ih.2 _ _ _ _ _ _ _ h1 hk ho (by omega)).two _ (ih.1 _ _ _ _ _ _ _ h3 hlt ho1 hb)
      · simp only [Option.some.injEq, Prod.mk.injEq] at h2
        obtain ⟨rfl, rfl, rfl, rfl⟩ := h2
        exact ih.2 _ _ _ _ _ _ _ h1 hk ho hb
    · intro names k bad t names' k' bad' h hk ho hb
      simp only [oneM] at h
      split at h
      · simp only [Option.some.injEq, Prod.mk.injEq] at h
        obtain ⟨rfl, rfl, rfl, rfl⟩ := h
        exact NAdd.none _ _ _
      · split at h
        · simp only [Option.some.injEq, Prod.mk.injEq] at h
          obtain ⟨rfl, rfl, rfl, rfl⟩ := h
          exact NAdd.none _ _ _
        · split at h
          · rename_i hM
            obtain ⟨⟨x, n1, k1, b1⟩, h1, h2⟩ := Option.bind_eq_some_iff.1 h
            simp only [Option.some.injEq, Prod.mk.injEq] at h2
            obtain ⟨rfl, rfl, rfl, rfl⟩ := h2
            exact (ih.1 _ _ _ _ _ _ _ h1 (isM_lt hG hk hM (by decide) (by decide)) ho (needB_negN hb).1).one _
          · split at h
            · rename_i hM
              obtain ⟨⟨x, n1, k1, b1⟩, h1, h2⟩ := Option.bind_eq_some_iff.1 h
              have hlt := isM_lt hG hk hM (by decide) (by decide)
              obtain ⟨hk1, ho1⟩ := hok.1 _ _ _ _ _ _ _ h1 hlt ho
              simp only at h2
              split at h2
              · rename_i hM2
                obtain ⟨⟨y, n2, k2, b2⟩, h3, h4⟩ := Option.bind_eq_some_iff.1 h2
                simp only [Option.some.injEq, Prod.mk.injEq] at h4
                obtain ⟨rfl, rfl, rfl, rfl⟩ := h4
                have hlt2 := isM_lt hG hk1 hM2 (by decide) (by decide)
                have e1 := (needB_negN hb).1
                have e2 := (hbad.1 _ _ _ _ _ _ _ h3).2 e1
                exact (ih.1 _ _ _ _ _ _ _ h1 hlt ho (by omega)).two _ (ih.1 _ _ _ _ _ _ _ h3 hlt2 ho1 e1)
              · simp only [Option.some.injEq, Prod.mk.injEq] at h2
                obtain ⟨rfl, rfl, rfl, rfl⟩ := h2
                exact ih.1 _ _ _ _ _ _ _ h1 hlt ho (needB_negN hb).1
            · simp only [Option.some.injEq, Prod.mk.injEq] at h
              obtain ⟨rfl, rfl, rfl, rfl⟩ := h
              have hn := isM_is (needB_negN hb).2
              unfold nameM
              split
              · exact NAdd.none _ _ _
              · refine ⟨⟨[(tkAt l k).s], rfl, fun m hm => ?_⟩, fun i h1 h2 => ?_⟩
                · simp at hm
                  exact ⟨k, hk, hn, hm.symm⟩
                · simp at h2
                  have : i = names.length := by omega
                  subst this
                  exact .var
/-- the names of a type that was read whole. -/
theorem names_ok {s : ByteArray} {L : List Tk} (hE : PEnv s tyWords L) {n : Nat} {t : Ty} {names : List ByteArray} {K : Nat} {B : Int} (hM : arrowM L n [] 0 (-1) = some (t, names, K, B)) (hF : needB L { data := #[101, 110, 100] } K B < 0) : NW names ∧ (∀ m, m ∈ names → 0 < m.size ∧ m.size ≤ 300) ∧ ∀ i, i < names.length → Occ i t := by
  have hp : 0 < L.length := (lexT0 hE).1
  have hB := (needB_negN hF).1
  obtain ⟨⟨u, e, hu⟩, ho⟩ := (tnames L hE.good n).1 _ _ _ _ _ _ _ hM hp (NmOk.nil L) hB
  simp only [List.nil_append] at e
  subst e
  have hnd := ((tread_ok L hE.good n).1 _ _ _ _ _ _ _ hM hp (NmOk.nil L)).2.nd
  have key : ∀ m, m ∈ names → m ≠ { data := #[] } ∧ m ≠ { data := #[105, 110, 116] } ∧ m ≠ { data := #[98, 111, 111, 108] } ∧ (∀ c, c ∈ m.data.toList → isW c = true) ∧ 0 < m.size ∧ m.size ≤ 300 := fun m hm => by
    obtain ⟨j, hj, h1, h2⟩ := hu m hm
    rw [← h2]
    exact name_tok hE j hj h1
  exact ⟨⟨hnd, fun m hm => ⟨(key m hm).1, (key m hm).2.1, (key m hm).2.2.1⟩, fun m hm => (key m hm).2.2.2.1⟩, fun m hm => (key m hm).2.2.2.2, fun i hi => ho i (Nat.zero_le _) hi⟩
theorem matM_keep {m : Nat} {a : Ty} (h : WT m a) : ∀ (k : Nat) (u : Ty) (hu : WT k u) (gs : List (Option Ty)) (i : Nat), gs.getD i none ≠ none → (matM a u gs).1.getD i none ≠ none := by
  have two : ∀ (kd : ByteArray) (h0 : (kd.data.toList == []) = false) (a b c d : Ty) (gs : List (Option Ty)) (i : Nat), (∀ gs, gs.getD i none ≠ none → (matM a c gs).1.getD i none ≠ none) → (∀ gs, gs.getD i none ≠ none → (matM b d gs).1.getD i none ≠ none) → gs.getD i none ≠ none → (matM (.mk kd 0 [a, b]) (.mk kd 0 [c, d]) gs).1.getD i none ≠ none := by
    intro kd h0 a b c d gs i f g hg
    rw [matM_two kd h0]
    split
    · split
      · exact g _ (f _ hg)
      · exact f _ hg
    · exact hg
  induction h with
  | var n hn =>
    intro k u hu gs i hg
    rw [matM_var]
    cases he : gs.getD n none with
    | some t => exact hg
    | none =>
      by_cases e : i = n
      · subst e
        exact absurd he hg
      · simpa [List.getD, List.getElem?_set, Ne.symm e] using hg
  | int =>
    intro k u hu gs i hg
    cases u with
    | mk k' n' l' => simp only [matM]; split; contradiction; split; simpa [matMs] using hg; exact hg
  | bool =>
    intro k u hu gs i hg
    cases u with
    | mk k' n' l' => simp only [matM]; split; contradiction; split; simpa [matMs] using hg; exact hg
  | list a _ ih =>
    intro k u hu gs i hg
    cases hu with
    | list c hc =>
      cases hB : (matM a c gs).2 with
      | true => rw [(matM_list a c gs).2 hB]; exact ih k c hc gs i hg
      | false =>
        have e : matM (.mk { data := #[108, 105, 115, 116] } 0 [a]) (.mk { data := #[108, 105, 115, 116] } 0 [c]) gs = (gs, false) := by
          rw [matM]
          simp [matMs, hB]
        rw [e]
        exact hg
    | var n _ => rw [matM_other _ _ _ _ _ _ _ (by decide) (by decide)]; exact hg
    | int => rw [matM_other _ _ _ _ _ _ _ (by decide) (by decide)]; exact hg
    | bool => rw [matM_other _ _ _ _ _ _ _ (by decide) (by decide)]; exact hg
    | pair _ _ _ _ => rw [matM_other _ _ _ _ _ _ _ (by decide) (by decide)]; exact hg
    | fn _ _ _ _ => rw [matM_other _ _ _ _ _ _ _ (by decide) (by decide)]; exact hg
  | pair a b _ _ ih ih2 =>
    intro k u hu gs i hg
    cases hu with
    | pair c d hc hd => exact two _ (by decide) a b c d gs i (fun gs => ih k c hc gs i) (fun gs => ih2 k d hd gs i) hg
    | var n _ => rw [matM_other _ _ _ _ _ _ _ (by decide) (by decide)]; exact hg
    | int => rw [matM_other _ _ _ _ _ _ _ (by decide) (by decide)]; exact hg
    | bool => rw [matM_other _ _ _ _ _ _ _ (by decide) (by decide)]; exact hg
    | list _ _ => rw [matM_other _ _ _ _ _ _ _ (by decide) (by decide)]; exact hg
    | fn _ _ _ _ => rw [matM_other _ _ _ _ _ _ _ (by decide) (by decide)]; exact hg
  | fn a b _ _ ih ih2 =>
    intro k u hu gs i hg
    cases hu with
    | fn c d hc hd => exact two _ (by decide) a b c d gs i (fun gs => ih k c hc gs i) (fun gs => ih2 k d hd gs i) hg
    | var n _ => rw [matM_other _ _ _ _ _ _ _ (by decide) (by decide)]; exact hg
    | int => rw [matM_other _ _ _ _ _ _ _ (by decide) (by decide)]; exact hg
    | bool => rw [matM_other _ _ _ _ _ _ _ (by decide) (by decide)]; exact hg
    | list _ _ => rw [matM_other _ _ _ _ _ _ _ (by decide) (by decide)]; exact hg
    | pair _ _ _ _ => rw [matM_other _ _ _ _ _ _ _ (by decide) (by decide)]; exact hg
/-- behind a match each variable that stands there is known. -/
theorem matM_occ {m : Nat} {a : Ty} (h : WT m a) : ∀ (k : Nat) (u : Ty) (hu : WT k u) (gs : List (Option Ty)) (i : Nat), (matM a u gs).2 = true → Occ i a → i < gs.length → (matM a u gs).1.getD i none ≠ none := by
  have two : ∀ (kd : ByteArray) (h0 : (kd.data.toList == []) = false) (a b c d : Ty) (gs : List (Option Ty)) (i : Nat), (∀ gs, (matM a c gs).2 = true → Occ i a → i < gs.length → (matM a c gs).1.getD i none ≠ none) → (∀ gs, (matM b d gs).2 = true → Occ i b → i < gs.length → (matM b d gs).1.getD i none ≠ none) → (∀ gs, gs.getD i none ≠ none → (matM b d gs).1.getD i none ≠ none) → (matM (.mk kd 0 [a, b]) (.mk kd 0 [c, d]) gs).2 = true → Occ i (.mk kd 0 [a, b]) → i < gs.length → (matM (.mk kd 0 [a, b]) (.mk kd 0 [c, d]) gs).1.getD i none ≠ none := by
    intro kd h0 a b c d gs i f g kp hT hO hl
    rw [matM_two kd h0] at hT ⊢
    cases h1 : (matM a c gs).2 with
    | false => rw [h1] at hT; simp at hT
    | true =>
      rw [h1] at hT
      simp only [if_true] at hT ⊢
      cases h2 : (matM b d (matM a c gs).1).2 with
      | false => rw [h2] at hT; simp at hT
      | true =>
        simp only [if_true]
        cases hO with
        | kid _ _ _ x hx ho =>
          simp at hx
          rcases hx with rfl | rfl
          · exact kp _ (f gs h1 ho hl)
          · exact g _ h2 ho (by rw [matM_len]; exact hl)
  induction h with
  | var n hn =>
    intro k u hu gs i hT hO hl
    cases hO with
    | kid _ _ _ x hx _ => simp at hx
    | var =>
      rw [matM_var]
      cases he : gs.getD n none with
      | some t => rw [he]; simp
      | none => simp [List.getD, hl]
  | int => intro k u hu gs i hT hO hl; cases hO with | kid _ _ _ x hx _ => simp at hx
  | bool => intro k u hu gs i hT hO hl; cases hO with | kid _ _ _ x hx _ => simp at hx
  | list a _ ih =>
    intro k u hu gs i hT hO hl
    cases hO with
    | kid _ _ _ x hx ho =>
      simp at hx
      subst hx
      cases hu with
      | list c hc =>
        have e := matM_list x c gs
        rw [e.1] at hT
        rw [e.2 hT]
        exact ih k c hc gs i hT ho hl
      | var n _ => rw [matM_other _ _ _ _ _ _ _ (by decide) (by decide)] at hT; cases hT
      | int => rw [matM_other _ _ _ _ _ _ _ (by decide) (by decide)] at hT; cases hT
      | bool => rw [matM_other _ _ _ _ _ _ _ (by decide) (by decide)] at hT; cases hT
      | pair _ _ _ _ => rw [matM_other _ _ _ _ _ _ _ (by decide) (by decide)] at hT; cases hT
      | fn _ _ _ _ => rw [matM_other _ _ _ _ _ _ _ (by decide) (by decide)] at hT; cases hT
  | pair a b _ hb ih ih2 =>
    intro k u hu gs i hT hO hl
    cases hu with
    | pair c d hc hd => exact two _ (by decide) a b c d gs i (fun gs => ih k c hc gs i) (fun gs => ih2 k d hd gs i) (fun gs => matM_keep hb k d hd gs i) hT hO hl
    | var n _ => rw [matM_other _ _ _ _ _ _ _ (by decide) (by decide)] at hT; cases hT
    | int => rw [matM_other _ _ _ _ _ _ _ (by decide) (by decide)] at hT; cases hT
    | bool => rw [matM_other _ _ _ _ _ _ _ (by decide) (by decide)] at hT; cases hT
    | list _ _ => rw [matM_other _ _ _ _ _ _ _ (by decide) (by decide)] at hT; cases hT
    | fn _ _ _ _ => rw [matM_other _ _ _ _ _ _ _ (by decide) (by decide)] at hT; cases hT
  | fn a b _ hb ih ih2 =>
    intro k u hu gs i hT hO hl
    cases hu with
    | fn c d hc hd => exact two _ (by decide) a b c d gs i (fun gs => ih k c hc gs i) (fun gs => ih2 k d hd gs i) (fun gs => matM_keep hb k d hd gs i) hT hO hl
    | var n _ => rw [matM_other _ _ _ _ _ _ _ (by decide) (by decide)] at hT; cases hT
    | int => rw [matM_other _ _ _ _ _ _ _ (by decide) (by decide)] at hT; cases hT
    | bool => rw [matM_other _ _ _ _ _ _ _ (by decide) (by decide)] at hT; cases hT
    | list _ _ => rw [matM_other _ _ _ _ _ _ _ (by decide) (by decide)] at hT; cases hT
    | pair _ _ _ _ => rw [matM_other _ _ _ _ _ _ _ (by decide) (by decide)] at hT; cases hT
end Go.Proofs.YtleenphlgbklmabGreatDoor

namespace Go.Proofs.YtleenphlgbklmabGreatDoor
open Go.RowKit
open Go.Sort

theorem Tryz.eqMN (w : World) : (binOp BinOp.eql 60 (.map none) (.map none)).run Tryz.prog w = .ok (.bool true) w := by kernel_rfl
theorem Tryz.eqMS (b : Nat) (w : World) : (binOp BinOp.eql 60 (.map (some b)) (.map none)).run Tryz.prog w = .ok (.bool false) w := by kernel_rfl
theorem sorted_nil (w : World) : Calls Tryz.prog 24 #[.func (.func 44) #[] #[.pointer (some ⟨w.heap.size, 0, none⟩)]] (w.alloc (.cells #[.map none] 60)) fun e w' => e = .returned (.slice none 0 0) ∧ Kept (w.alloc (.cells #[.map none] 60)) w' := by
  refine (callsIn_wide.1 (Tryz.sortedNilT w)).mono ?_
  rintro e w' ⟨v, ss, rfl, hS, hrow, hnil, hb⟩
  rw [hnil.2 hS]
  exact ⟨rfl, hb.os, hb.output, hb.size, hb.block⟩
set_option maxRecDepth 20000 in
set_option maxHeartbeats 2000000 in
theorem pl_inst_err (s z : ByteArray) (w : World) (R : Int → Int → Prop) (HP : Hid (Calls Tryz.prog 23 #[.string s, .string z] (w.alloc (.cells #[.int .i64 0, .int .i64 0, .string { data := #[] }, .int .i64 0, .int .i64 0] 23)) fun e w' => ∃ T u what loc, e = .returned (.tuple #[.map none, .iface T u]) ∧ Kept (w.alloc (.cells #[.int .i64 0, .int .i64 0, .string { data := #[] }, .int .i64 0, .int .i64 0] 23)) w' ∧ Hid (∀ w2, Kept w' w2 → Calls Tryz.prog 22 #[.iface T u] w2 fun e w'' => e = .returned (faultVal what loc { data := #[] }) ∧ Kept w2 w'') ∧ R what loc)) :
    Calls Tryz.prog 9 #[.string s, .string z] w fun e w' => ∃ what loc, e = .returned (.tuple #[.slice none 0 0, .slice none 0 0, .bool true, faultVal what loc { data := #[] }]) ∧ R what loc ∧ Kept w w' := by
  have hk0 : Kept w (w.alloc (.cells #[.int .i64 0, .int .i64 0, .string { data := #[] }, .int .i64 0, .int .i64 0] 23)) := Kept.alloc _ _
  have hb0 : (w.alloc (.cells #[.int .i64 0, .int .i64 0, .string { data := #[] }, .int .i64 0, .int .i64 0] 23)).heap[w.heap.size]? = some (.cells #[.int .i64 0, .int .i64 0, .string { data := #[] }, .int .i64 0, .int .i64 0] 23 (0, 0)) := heap_alloc_new _ _
  go_enter Tryz.func9, Tryz.ntmps9
  go_wp2_with fail
  refine Calls.mono HP.out ?_
  rintro e w1 ⟨T, u, what, loc, rfl, hk1, HF, hR⟩
  have hb1 := hk1.blk hb0
  have HR : Hid _ := hR
  clear HP hR
  have HK : Hid _ := keys_any none w1
  go_wp2_with fail
  refine Calls.mono HK.out ?_
  rintro e w2 ⟨rfl, hw2⟩
  rw [hw2]
  clear HK hw2 w2
  have HS : Hid _ := sorted_nil w1
  go_wp2_with fail
  refine Calls.mono HS.out ?_
  rintro e w2 ⟨rfl, hk2⟩
  have hk2 : Kept w1 w2 := (Kept.alloc _ _).trans hk2
  have hb2 := hk2.blk hb1
  have HF2 : Hid _ := HF.out
  clear HF HS
  go_wp2
  go_loopw [4, 5, 22] (fun a b i wr => a = .slice none 0 0 ∧ b = .slice none 0 0 ∧ i = .int .i64 0 ∧ wr = w2) (fun _ _ _ _ => 0)
  case atStart => exact ⟨rfl, rfl, rfl, rfl⟩
  case round =>
    obtain ⟨rfl, rfl, rfl, hww⟩ := hrel
    subst hww
    have hE := Tryz.eqMN wr
    go_wp2_with fail
    refine Calls.mono (HF2.out wr hk2) ?_
    rintro e w4 ⟨rfl, hk4⟩
    have hb4 := hk4.blk hb2
    have hK := ((hk0.trans hk1).trans hk2).trans hk4
    clear HF2 hE
    have c0 : w4.cell? ⟨w.heap.size, 0, none⟩ = some (.int .i64 0) := by simp [World.cell?, hb4]
    have c1 : w4.cell? ⟨w.heap.size, 1, none⟩ = some (.int .i64 0) := by simp [World.cell?, hb4]
    have c2 : w4.cell? ⟨w.heap.size, 2, none⟩ = some (.string { data := #[] }) := by simp [World.cell?, hb4]
    have c3 : w4.cell? ⟨w.heap.size, 3, none⟩ = some (.int .i64 0) := by simp [World.cell?, hb4]
    have c4 : w4.cell? ⟨w.heap.size, 4, none⟩ = some (.int .i64 0) := by simp [World.cell?, hb4]
    have f0 : ∀ j, w4.frozen? ⟨w.heap.size, j, none⟩ = false := fun j => by simp [World.frozen?, hb4]
    unfold faultVal
    go_wp2_with fail
    obtain ⟨w5, hw5⟩ : ∃ w5, w5 = ((((w4.setCell ⟨w.heap.size, 0, none⟩ (.int .i64 what)).setCell ⟨w.heap.size, 1, none⟩ (.int .i64 loc)).setCell ⟨w.heap.size, 2, none⟩ (.string { data := #[] })).setCell ⟨w.heap.size, 3, none⟩ (.int .i64 0)).setCell ⟨w.heap.size, 4, none⟩ (.int .i64 0) := ⟨_, rfl⟩
    have hF : w5.heap[w.heap.size]? = some (.cells #[.int .i64 what, .int .i64 loc, .string { data := #[] }, .int .i64 0, .int .i64 0] 23 (0, 0)) := by
      rw [hw5]
      simp [World.setCell, hb4, Array.getElem?_modify]
    have hKF : Kept w w5 := by
      rw [hw5]
      refine ⟨hK.1, hK.2, by simpa using hK.3, fun q hq => ?_⟩
      have e : ∀ (W : World) (j : Nat) (v : Value), (W.setCell ⟨w.heap.size, j, none⟩ v).heap[q]? = W.heap[q]? := fun W j v => Below.heap_setCell _ _ _ q (by intro z; simp at z; omega)
      exact (e _ _ _).trans ((e _ _ _).trans ((e _ _ _).trans ((e _ _ _).trans ((e _ _ _).trans (hK.4 q hq)))))
    rw [← hw5]
    clear hw5
    have d0 : w5.cell? ⟨w.heap.size, 0, none⟩ = some (.int .i64 what) := by simp [World.cell?, hF]
    have d1 : w5.cell? ⟨w.heap.size, 1, none⟩ = some (.int .i64 loc) := by simp [World.cell?, hF]
    have d2 : w5.cell? ⟨w.heap.size, 2, none⟩ = some (.string { data := #[] }) := by simp [World.cell?, hF]
    have d3 : w5.cell? ⟨w.heap.size, 3, none⟩ = some (.int .i64 0) := by simp [World.cell?, hF]
    have d4 : w5.cell? ⟨w.heap.size, 4, none⟩ = some (.int .i64 0) := by simp [World.cell?, hF]
    exact bodyPost_ret (v := .tuple #[.slice none 0 0, .slice none 0 0, .bool true, faultVal what loc { data := #[] }]) (by simp [results, Tryz.results9, go_sem, faultVal, d0, d1, d2, d3, d4]) rfl ⟨what, loc, rfl, HR.out, hKF⟩
end Go.Proofs.YtleenphlgbklmabGreatDoor

namespace Go.Proofs.YtleenphlgbklmabGreatDoor
open Go.RowKit
open Go.Sort

theorem leB_trans (a b c : List UInt8) (h1 : decide (a ≤ b) = true) (h2 : decide (b ≤ c) = true) : decide (a ≤ c) = true := by
  simp only [decide_eq_true_eq] at *
  exact List.le_trans h1 h2
theorem leB_total (a b : List UInt8) : (decide (a ≤ b) || decide (b ≤ a)) = true := by
  simp only [Bool.or_eq_true, decide_eq_true_eq]
  exact List.le_total a b
theorem sorted_some {w : World} {mb : Nat} {kv : List (ByteArray × ByteArray)} (h : SM w mb kv) (hl : kv.length ≤ 1000) (hs : ∀ y, y ∈ kv → y.1.size ≤ maxLen) :
    Calls Tryz.prog 24 #[.func (.func 44) #[] #[.pointer (some ⟨w.heap.size, 0, none⟩)]] (w.alloc (.cells #[.map (some mb)] 60)) fun e w' => ∃ (v : Value) (sk : List (List UInt8)), e = .returned v ∧ sk.Perm (kv.map fun y => y.1.data.toList) ∧ sk.Pairwise (fun x y => decide (x ≤ y) = true) ∧ w'.ownsRow 0 9 1 v sk.length (sk.map encStr) ∧ Kept (w.alloc (.cells #[.map (some mb)] 60)) w' := by
  obtain ⟨D0, h1, h2, h3⟩ := h.owns hl hs
  refine (callsIn_wide.1 (Tryz.sortedKeysT mb kv.length D0 _ w h1 (by unfold maxLen; omega) (by omega))).mono ?_
  rintro e w' ⟨v, ss, rfl, hS, hrow, hnil, hb⟩
  refine ⟨v, ss.mergeSort (fun x y => decide (x ≤ y)), rfl, ((List.mergeSort_perm ss _).trans hS).trans h2, List.pairwise_mergeSort leB_trans leB_total ss, ?_, ⟨hb.os, hb.output, hb.size, hb.block⟩⟩
  rw [List.length_mergeSort]
  refine ⟨hrow.1, ?_⟩
  rcases hrow.2 with q | ⟨g, cap, cur, e1, _, rest⟩
  · exact .inl q
  · exact .inr ⟨g, cap, cur, e1, Nat.zero_le _, rest⟩
/-- the text that stands by a key. -/
def keyT (kv : List (ByteArray × ByteArray)) (x : List UInt8) : ByteArray := match kv.findIdx? (fun y => sameS y.1 ⟨x.toArray⟩) with | some j => (kAt kv j).2 | none => { data := #[] }
theorem run_keyT (w : World) (mb : Nat) (kv : List (ByteArray × ByteArray)) (x : List UInt8) (h : SM w mb kv) : (Instr.lookup 60 (.map (some mb)) (encStr x) false).run Tryz.prog w = .ok (.agg #[.string (keyT kv x)]) w := by
  have := run_tlook1 60 Tryz.underlying60 w mb kv ⟨x.toArray⟩ h
  show (Instr.lookup 60 (.map (some mb)) (.string ⟨x.toArray⟩) false).run Tryz.prog w = _
  rw [this]
  unfold keyT
  cases kv.findIdx? (fun y => sameS y.1 ⟨x.toArray⟩) <;> rfl
theorem Tryz.fldT (y : ByteArray) (w : World) : (Instr.field 68 (.agg #[.string y]) 0).run Tryz.prog w = .ok (.string y) w := by kernel_rfl
def keyV (kv : List (ByteArray × ByteArray)) (x : List UInt8) : Value := .string (keyT kv x)
theorem Tryz.infoStr : (Tryz.prog.info? 9).map (fun i => (i.zero, i.size, i.bytes)) = some (some (.string { data := #[] }), 1, 16) := by kernel_rfl
set_option maxRecDepth 20000 in
set_option maxHeartbeats 2000000 in
theorem pl_inst_ok (s z : ByteArray) (w : World) (kvs : List (ByteArray × ByteArray) → Prop) (HP : Hid (Calls Tryz.prog 23 #[.string s, .string z] (w.alloc (.cells #[.int .i64 0, .int .i64 0, .string { data := #[] }, .int .i64 0, .int .i64 0] 23)) fun e w' => ∃ mb kv, e = .returned (.tuple #[.map (some mb), .nilIface]) ∧ Kept (w.alloc (.cells #[.int .i64 0, .int .i64 0, .string { data := #[] }, .int .i64 0, .int .i64 0] 23)) w' ∧ SM w' mb kv ∧ Hid (kvs kv ∧ kv.length ≤ 1000 ∧ (∀ y, y ∈ kv → y.1.size ≤ maxLen)))) :
    Calls Tryz.prog 9 #[.string s, .string z] w fun e w' => ∃ (a b : Value) (kv : List (ByteArray × ByteArray)) (sk : List (List UInt8)), e = .returned (.tuple #[a, b, .bool false, faultVal 0 0 { data := #[] }]) ∧ kvs kv ∧ kv.length ≤ 1000 ∧ sk.Perm (kv.map fun y => y.1.data.toList) ∧ sk.Pairwise (fun x y => decide (x ≤ y) = true) ∧ w'.ownsRow 0 9 1 a sk.length (sk.map encStr) ∧ w'.ownsRow 0 9 1 b sk.length (sk.map (keyV kv)) ∧ Kept w w' := by
  have hk0 : Kept w (w.alloc (.cells #[.int .i64 0, .int .i64 0, .string { data := #[] }, .int .i64 0, .int .i64 0] 23)) := Kept.alloc _ _
  have hb0 : (w.alloc (.cells #[.int .i64 0, .int .i64 0, .string { data := #[] }, .int .i64 0, .int .i64 0] 23)).heap[w.heap.size]? = some (.cells #[.int .i64 0, .int .i64 0, .string { data := #[] }, .int .i64 0, .int .i64 0] 23 (0, 0)) := heap_alloc_new _ _
  obtain ⟨i0, hi, hz0, hz1, hz2⟩ := info_parts Tryz.infoStr
  go_enter Tryz.func9, Tryz.ntmps9
  go_wp2_with fail
  refine Calls.mono HP.out ?_
  rintro e w1 ⟨mb, kv, rfl, hk1, hS1, HQ⟩
  have hb1 := hk1.blk hb0
  clear HP
  have HK : Hid _ := keys_any (some mb) w1
  have HS : Hid _ := sorted_some hS1 HQ.out.2.1 HQ.out.2.2
  have HM1 : Hid _ := hS1
  clear hS1
  go_wp2_with fail
  refine Calls.mono HK.out ?_
  rintro e w2 ⟨rfl, hw2⟩
  rw [hw2]
  clear HK hw2 w2
  go_wp2_with fail
  refine Calls.mono HS.out ?_
  rintro e w2 ⟨v, sk, rfl, hp, hso, hrow, hk2⟩
  have hk2 : Kept w1 w2 := (Kept.alloc _ _).trans hk2
  have hb2 := hk2.blk hb1
  have HPS : Hid (sk.Perm (kv.map fun y => y.1.data.toList) ∧ sk.Pairwise (fun x y => decide (x ≤ y) = true)) := ⟨hp, hso⟩
  have hskl : sk.length ≤ 1000 := by rw [hp.length_eq]; simpa using HQ.out.2.1
  obtain ⟨ao, cap, rfl⟩ : ∃ ao cap, v = .slice ao sk.length cap := by
    rcases hrow.2 with ⟨rfl, q⟩ | ⟨g, cap, cur, rfl, _⟩
    · exact ⟨none, 0, by rw [q]⟩
    · exact ⟨_, _, rfl⟩
  obtain ⟨g, HR⟩ : ∃ g, Hid (∀ (q : Nat) (x : List UInt8), sk[q]? = some x → ao = some ⟨g, 0, none⟩ ∧ g < w2.heap.size ∧ w2.cell? ⟨g, q, none⟩ = some (encStr x)) := by
    rcases hrow.2 with ⟨e1, e2⟩ | ⟨g, cap', cur, e1, _, hg, _⟩
    · refine ⟨0, fun q x hx => ?_⟩
      have := (List.getElem?_eq_some_iff.1 hx).1
      omega
    · simp only [Value.slice.injEq] at e1
      refine ⟨g, fun q x hx => ⟨e1.1, lt_of_block hg, ?_⟩⟩
      have h1 := World.ownsRow.cells hrow (g := g) (by rw [e1.1]; rfl) q (encStr x) (by simp [hx])
      have e3 : ((⟨g, 0, none⟩ : Addr).add q) = ⟨g, q, none⟩ := by unfold Addr.add; split <;> simp_all
      rw [e3] at h1
      exact h1
  clear HS hp hso hrow
  go_wp2
  go_loopw [4, 5, 22] (fun a b i wr => ∃ q : Nat, q ≤ sk.length ∧ i = .int .i64 q ∧ wr.ownsRow w2.heap.size 9 1 a q ((sk.take q).map encStr) ∧ wr.ownsRow w2.heap.size 9 1 b q ((sk.take q).map (keyV kv)) ∧ (∀ g, a.ownBlock = some g → b.ownBlock ≠ some g) ∧ Kept w2 wr) (fun _ _ i _ => sk.length - (intOf i).toNat)
  case atStart => exact ⟨0, Nat.zero_le _, rfl, World.ownsRow_nil _ _ _ _, World.ownsRow_nil _ _ _ _, by simp [Value.ownBlock], Kept.refl _⟩
  case round =>
    obtain ⟨q, hq, rfl, hA, hB, hne, hkr⟩ := hrel
    by_cases hlt : q < sk.length
    · obtain ⟨x, hx⟩ : ∃ x, sk[q]? = some x := ⟨sk[q], by simp [hlt]⟩
      obtain ⟨rfl, hgl, hc⟩ := HR.out q x hx
      have hcr : wr.cell? ⟨g, q, none⟩ = some (.string ⟨x.toArray⟩) := hkr.cell hc
      have ht : sk.take (q + 1) = sk.take q ++ [x] := by
        rw [List.take_succ_eq_append_getElem hlt]
        congr 2
        have := List.getElem?_eq_getElem hlt
        rw [this] at hx
        simpa using hx
      have HT : Hid _ := ht
      clear ht HR
      have hAl : ∀ k, u4.ownBlock = some k → w2.heap.size ≤ k ∧ k < wr.heap.size := fun k hk => World.ownsRow.lt hA k hk
      have hBl : ∀ k, u5.ownBlock = some k → w2.heap.size ≤ k ∧ k < wr.heap.size := fun k hk => World.ownsRow.lt hB k hk
      have hsw := hkr.size
      go_wp2_with (at_builtin; refine wpList_append_own2 _ rfl (.tmp 26) (.tmp 28) 26 rfl w2.heap.size 9 i0 (.string { data := #[] }) 1 16 Tryz.underlying26 hi hz0 hz1 hz2 rfl (by decide) _ _ _ rfl (World.ownsRow.alloc hA _) ⟨wr.heap.size, 0, none⟩ 1 1 [.string ⟨x.toArray⟩] rfl rfl ?c1 ?c2 ?c3 ?c4 ?c5 (by decide) ?_)
      case c1 =>
        intro y u hy
        match y, hy with
        | 0, hy => simp at hy; subst hy; simp [Addr.add]
      case c2 =>
        intro u hu
        simp at hu
        subst hu
        rfl
      case c3 => unfold maxLen; omega
      case c4 => omega
      case c5 => simp; omega
      intro ga capa w3 hA3 hgrow3 hfr3
      have hs3 := hgrow3.size
      simp at hs3
      have hk3 : Kept w2 w3 := ⟨hgrow3.os.trans hkr.os, hgrow3.output.trans hkr.output, by omega, fun k hk => by
        rw [hgrow3.block k (by simp; omega) (fun e => by have := (hAl k e.symm).1; omega)]
        rw [Below.heap_alloc _ _ _ (by omega)]
        exact hkr.block k hk⟩
      have hB3 : w3.ownsRow w2.heap.size 9 1 u5 q ((sk.take q).map (keyV kv)) := ownsRow_same hB (fun k hk => by
        rw [hgrow3.block k (by simp; have := (hBl k hk).2; omega) (fun e => hne k e.symm hk), Below.heap_alloc _ _ _ (hBl k hk).2])
      have hgaB : u5.ownBlock ≠ some ga := fun e => by
        rcases hfr3 with z | z
        · exact hne ga z.symm e
        · have := (hBl ga e).2
          (try simp at z)
          omega
      have hM3 : (Instr.lookup 60 (.map (some mb)) (.string ⟨x.toArray⟩) false).run Tryz.prog w3 = .ok (.agg #[.string (keyT kv x)]) w3 := run_keyT w3 mb kv x ⟨(hk2.trans hk3).blk HM1.out.mp, HM1.out.nd⟩
      have hfl := Tryz.fldT (keyT kv x) w3
      have HA3 : Hid _ := hA3
      have HGA : Hid _ := hgaB
      clear hgrow3 hfr3 hA hA3 hgaB hB hAl hcr
      go_wp2_with (at_builtin; refine wpList_append_own2 _ rfl (.tmp 30) (.tmp 35) 26 rfl w2.heap.size 9 i0 (.string { data := #[] }) 1 16 Tryz.underlying26 hi hz0 hz1 hz2 rfl (by decide) _ _ _ rfl (World.ownsRow.alloc hB3 _) ⟨w3.heap.size, 0, none⟩ 1 1 [.string (keyT kv x)] rfl rfl ?d1 ?d2 ?d3 ?d4 ?d5 (by decide) ?_)
      case d1 =>
        intro y u hy
        match y, hy with
        | 0, hy => simp at hy; subst hy; simp [Addr.add]
      case d2 =>
        intro u hu
        simp at hu
        subst hu
        rfl
      case d3 => unfold maxLen; omega
      case d4 => omega
      case d5 => simp; omega
      intro gb capb w4 hB4 hgrow4 hfr4
      have hs4 := hgrow4.size
      simp at hs4
      have hA3l := (World.ownsRow.lt HA3.out ga (by simp [Value.ownBlock]))
      have hk4 : Kept w2 w4 := ⟨hgrow4.os.trans hk3.os, hgrow4.output.trans hk3.output, by omega, fun k hk => by
        rw [hgrow4.block k (by simp; omega) (fun e => by have := (hBl k e.symm).1; omega)]
        rw [Below.heap_alloc _ _ _ (by omega)]
        exact hk3.block k hk⟩
      have hA4 : w4.ownsRow w2.heap.size 9 1 (.slice (some ⟨ga, 0, none⟩) (q + 1) capa) (q + 1) ((sk.take (q + 1)).map encStr) := by
        have : (sk.take (q + 1)).map encStr = (sk.map encStr).take q ++ [.string ⟨x.toArray⟩] := by rw [HT.out]; simp [encStr]
        rw [this]
        exact ownsRow_same HA3.out (fun k hk => by
          have e : k = ga := by simpa [Value.ownBlock] using hk.symm
          subst e
          rw [hgrow4.block k (by simp; omega) (fun e => HGA.out e.symm), Below.heap_alloc _ _ _ hA3l.2])
      have hB4' : w4.ownsRow w2.heap.size 9 1 (.slice (some ⟨gb, 0, none⟩) (q + 1) capb) (q + 1) ((sk.take (q + 1)).map (keyV kv)) := by
        have : (sk.take (q + 1)).map (keyV kv) = (sk.map (keyV kv)).take q ++ [.string (keyT kv x)] := by rw [HT.out]; simp [keyV]
        rw [this]
        exact hB4
      have hne4 : ∀ g, (Value.slice (some ⟨ga, 0, none⟩) (q + 1) capa).ownBlock = some g → (Value.slice (some ⟨gb, 0, none⟩) (q + 1) capb).ownBlock ≠ some g := fun g hg e => by
        have e1 : ga = g := by simpa [Value.ownBlock] using hg
        have e2 : gb = g := by simpa [Value.ownBlock] using e
        rcases hfr4 with z | z
        · exact HGA.out (by rw [← z, e1, e2])
        · (try simp at z)
          omega
      clear hgrow4 hfr4 hB4 hB3 hBl hM3 hfl
      go_wp2
      exact ⟨⟨q + 1, by omega, by go_num, hA4, hB4', hne4, hk4⟩, by simp [intOf]; omega⟩
    · have hqe : q = sk.length := by omega
      have HQE : Hid _ := hqe
      clear hqe HR
      have hE := Tryz.eqMS mb wr
      have HF : Hid _ := fault_nil wr
      have hb3 := hkr.blk hb2
      go_wp2_with fail
      refine Calls.mono HF.out ?_
      rintro e w4 ⟨rfl, hk4⟩
      have hk4 := Kept.below hk4
      have hb4 := hk4.blk hb3
      have hK := (((hk0.trans hk1).trans hk2).trans hkr).trans hk4
      clear HF hE
      have c0 : w4.cell? ⟨w.heap.size, 0, none⟩ = some (.int .i64 0) := by simp [World.cell?, hb4]
      have c1 : w4.cell? ⟨w.heap.size, 1, none⟩ = some (.int .i64 0) := by simp [World.cell?, hb4]
      have c2 : w4.cell? ⟨w.heap.size, 2, none⟩ = some (.string { data := #[] }) := by simp [World.cell?, hb4]
      have c3 : w4.cell? ⟨w.heap.size, 3, none⟩ = some (.int .i64 0) := by simp [World.cell?, hb4]
      have c4 : w4.cell? ⟨w.heap.size, 4, none⟩ = some (.int .i64 0) := by simp [World.cell?, hb4]
      have f0 : ∀ j, w4.frozen? ⟨w.heap.size, j, none⟩ = false := fun j => by simp [World.frozen?, hb4]
      unfold faultVal
      go_wp2_with fail
      obtain ⟨w5, hw5⟩ : ∃ w5, w5 = ((((w4.setCell ⟨w.heap.size, 0, none⟩ (.int .i64 0)).setCell ⟨w.heap.size, 1, none⟩ (.int .i64 0)).setCell ⟨w.heap.size, 2, none⟩ (.string { data := #[] })).setCell ⟨w.heap.size, 3, none⟩ (.int .i64 0)).setCell ⟨w.heap.size, 4, none⟩ (.int .i64 0) := ⟨_, rfl⟩
      have hF : w5.heap[w.heap.size]? = some (.cells #[.int .i64 0, .int .i64 0, .string { data := #[] }, .int .i64 0, .int .i64 0] 23 (0, 0)) := by
        rw [hw5]
        simp [World.setCell, hb4, Array.getElem?_modify]
      have hKF : Kept w w5 := by
        rw [hw5]
        refine ⟨hK.1, hK.2, by simpa using hK.3, fun q hq => ?_⟩
        have e : ∀ (W : World) (j : Nat) (v : Value), (W.setCell ⟨w.heap.size, j, none⟩ v).heap[q]? = W.heap[q]? := fun W j v => Below.heap_setCell _ _ _ q (by intro z; simp at z; omega)
        exact (e _ _ _).trans ((e _ _ _).trans ((e _ _ _).trans ((e _ _ _).trans ((e _ _ _).trans (hK.4 q hq)))))
      have hKR : ∀ k, k < wr.heap.size → k ≠ w.heap.size → w5.heap[k]? = wr.heap[k]? := fun k hk hn => by
        rw [hw5]
        have e : ∀ (W : World) (j : Nat) (v : Value), (W.setCell ⟨w.heap.size, j, none⟩ v).heap[k]? = W.heap[k]? := fun W j v => Below.heap_setCell _ _ _ k (by intro z; exact hn z)
        exact (e _ _ _).trans ((e _ _ _).trans ((e _ _ _).trans ((e _ _ _).trans ((e _ _ _).trans (hk4.block k hk)))))
      have hsw2 : w.heap.size < w2.heap.size := lt_of_block hb2
      have row : ∀ (u : Value) (xs : List Value), wr.ownsRow w2.heap.size 9 1 u q xs → w5.ownsRow 0 9 1 u q xs := fun u xs h => by
        refine ⟨h.1, ?_⟩
        rcases h.2 with z | ⟨g, cap, cur, e1, e2, e3, e4⟩
        · exact .inl z
        · exact .inr ⟨g, cap, cur, e1, Nat.zero_le _, (hKR g (lt_of_block e3) (by omega)).trans e3, e4⟩
      have hA5 : w5.ownsRow 0 9 1 u4 sk.length (sk.map encStr) := by
        have := row _ _ hA
        rw [HQE.out, List.take_length] at this
        exact this
      have hB5 : w5.ownsRow 0 9 1 u5 sk.length (sk.map (keyV kv)) := by
        have := row _ _ hB
        rw [HQE.out, List.take_length] at this
        exact this
      clear hKR row hA hB
      rw [← hw5]
      clear hw5
      have d0 : w5.cell? ⟨w.heap.size, 0, none⟩ = some (.int .i64 0) := by simp [World.cell?, hF]
      have d1 : w5.cell? ⟨w.heap.size, 1, none⟩ = some (.int .i64 0) := by simp [World.cell?, hF]
      have d2 : w5.cell? ⟨w.heap.size, 2, none⟩ = some (.string { data := #[] }) := by simp [World.cell?, hF]
      have d3 : w5.cell? ⟨w.heap.size, 3, none⟩ = some (.int .i64 0) := by simp [World.cell?, hF]
      have d4 : w5.cell? ⟨w.heap.size, 4, none⟩ = some (.int .i64 0) := by simp [World.cell?, hF]
      exact bodyPost_ret (v := .tuple #[u4, u5, .bool false, faultVal 0 0 { data := #[] }]) (by simp [results, Tryz.results9, go_sem, faultVal, d0, d1, d2, d3, d4]) rfl ⟨u4, u5, kv, sk, rfl, HQ.out.1, HQ.out.2.1, HPS.out.1, HPS.out.2, hA5, hB5, hKF⟩
end Go.Proofs.YtleenphlgbklmabGreatDoor

namespace Go.Proofs.YtleenphlgbklmabGreatDoor
open Go.RowKit

theorem kinds_same : kkinds = tyWords := rfl
end Go.Proofs.YtleenphlgbklmabGreatDoor

namespace Go.Proofs.YtleenphlgbklmabGreatDoor
open Go.RowKit

/-- what a text is as a type: none, by a fault; or one, with its names. -/
inductive RdO where
  | bad (what loc : Int) | good (t : Ty) (names : List ByteArray)
/-- what parseType answers. -/
def TOut (A : Nat → Addr) : RdO → World → Ending → World → Prop
  | .bad what loc, w, e, w' => Kept w w' ∧ ∃ T u, e = .returned (.tuple #[.nilIface, .iface T u]) ∧ ∀ w2, Kept w' w2 → Calls Tryz.prog 22 #[.iface T u] w2 fun e w'' => e = .returned (faultVal what loc { data := #[] }) ∧ Kept w2 w''
  | .good t names, w, e, w' => Kept w w' ∧ ∃ T u vb, e = .returned (.tuple #[.iface T u, .nilIface]) ∧ PTyR w' vb w.heap.size w'.heap.size t (.iface T u) ∧ vb.Nodup ∧ NB w' vb names
def RdO.ok : RdO → Prop
  | .bad what _ => 0 < what
  | .good t names => sz t ≤ 120 ∧ WT names.length t ∧ NW names ∧ (∀ m, m ∈ names → 0 < m.size ∧ m.size ≤ 300) ∧ (∀ i, i < names.length → Occ i t) ∧ names.length ≤ 301
end Go.Proofs.YtleenphlgbklmabGreatDoor

namespace Go.Proofs.YtleenphlgbklmabGreatDoor
open Go.RowKit

/-- what a text is as a type. -/
def rdO (s : ByteArray) : RdO :=
  if 300 < s.size then .bad 1 0
  else match arrowM (lexT s) (2 * (lexT s).length + 2) [] 0 (-1) with
    | none => .bad 1 0
    | some (t, names, K, B) => if 0 ≤ needB (lexT s) { data := #[101, 110, 100] } K B then .bad 2 (needB (lexT s) { data := #[101, 110, 100] } K B) else if 120 < sz t then .bad 8 0 else .good t names
theorem rd_prog {A : Nat → Addr} (s : ByteArray) (hm : s.size ≤ 9223372036854775807) : (∀ W, Glb A W → Calls Tryz.prog 35 #[.string s] W (TOut A (rdO s) W)) ∧ (rdO s).ok := by
  unfold rdO
  by_cases hs : 300 < s.size
  · rw [if_pos hs]
    refine ⟨fun W hG => (ptype_long s W hG hs hm).mono ?_, by show (0 : Int) < 1; omega⟩
    rintro e w' ⟨rfl, hk⟩
    exact ⟨hk, _, _, rfl, fun w2 hk2 => fault_sen w2 ((hG.kept hk).kept hk2) 0 (by omega)⟩
  · rw [if_neg hs]
    have hs : s.size ≤ 300 := by omega
    have hE : PEnv s tyWords (lexT s) := ⟨hs, tyWordsOk, by unfold lexT; rw [kinds_same]⟩
    have hlp := (lexT0 hE).1
    obtain ⟨⟨t, names, K, B⟩, hM⟩ := (tread_total (lexT s) hE.good (lexT s).length).1 [] 0 (-1) (2 * (lexT s).length + 2) hlp (by omega) (by omega)
    rw [hM]
    have hlen : (lexT s).length ≤ 301 := by
      have := toks_len s kkinds (s.size + 1) 0
      unfold lexT
      omega
    have hneg : needB (lexT s) { data := #[101, 110, 100] } K B < 0 → B < 0 := fun h => (needB_negT h).1
    have hP := fun W (hG : Glb A W) => ptype_any hE W hG _ t names K B hM
    simp only
    by_cases hF : 0 ≤ needB (lexT s) { data := #[101, 110, 100] } K B
    · rw [if_pos hF]
      refine ⟨fun W hG => (hP W hG).mono ?_, by show (0 : Int) < 2; omega⟩
      rintro e w' ⟨hk, h⟩
      rcases h with ⟨b, l, e1, e2, e3⟩ | ⟨e1, _⟩ | ⟨e1, _⟩
      · refine ⟨hk, _, _, e2, fun w2 hk2 => ?_⟩
        rw [e1]
        exact (fault_syn w2 ((hG.kept hk).kept hk2) ⟨b, 0, none⟩ l (by have := hk2.blk e3; simp [World.cell?, this])).mono (fun e w'' ⟨a1, a2⟩ => ⟨a1, Kept.below a2⟩)
      · omega
      · omega
    · rw [if_neg hF]
      have hF : needB (lexT s) { data := #[101, 110, 100] } K B < 0 := by omega
      by_cases hd : 120 < sz t
      · rw [if_pos hd]
        refine ⟨fun W hG => (hP W hG).mono ?_, by show (0 : Int) < 8; omega⟩
        rintro e w' ⟨hk, h⟩
        rcases h with ⟨b, l, e1, e2, e3⟩ | ⟨e1, _, e3⟩ | ⟨e1, e2, _⟩
        · omega
        · exact ⟨hk, _, _, e3, fun w2 hk2 => fault_sen w2 ((hG.kept hk).kept hk2) 4 (by omega)⟩
        · omega
      · rw [if_neg hd]
        have hno := names_ok hE hM hF
        have hgood := (tread_good (lexT s) _).1 _ _ _ _ _ _ _ hM (hneg hF)
        have hnk := ((tread_ok (lexT s) hE.good _).1 _ _ _ _ _ _ _ hM hlp (NmOk.nil _)).2
        refine ⟨fun W hG => (hP W hG).mono ?_, by omega, hgood.2.2.2, hno.1, hno.2.1, hno.2.2, by have := hnk.len; omega⟩
        rintro e w' ⟨hk, h⟩
        rcases h with ⟨b, l, e1, e2, e3⟩ | ⟨e1, e2, e3⟩ | ⟨e1, e2, v, vb, e3, e4, e5, e6, e7⟩
        · omega
        · omega
        · obtain ⟨T, u, rfl⟩ := e4.iface
          exact ⟨hk, T, u, vb, e3, e4, e6, e7⟩
def COut : RdO → Value
  | .bad what loc => .tuple #[.string { data := #[] }, faultVal what loc { data := #[] }]
  | .good t _ => .tuple #[.string (canT t), faultVal 0 0 { data := #[] }]
theorem plcanon_rd {A : Nat → Addr} (s : ByteArray) (w : World) (hG : Glb A w) (hm : s.size ≤ 9223372036854775807) : Calls Tryz.prog 8 #[.string s] w fun e w' => e = .returned (COut (rdO s)) ∧ Kept w w' := by
  unfold rdO
  by_cases hs : 300 < s.size
  · rw [if_pos hs]
    exact plcanon_long s w hG hs hm
  · rw [if_neg hs]
    have hs : s.size ≤ 300 := by omega
    have hE : PEnv s tyWords (lexT s) := ⟨hs, tyWordsOk, by unfold lexT; rw [kinds_same]⟩
    have hlp := (lexT0 hE).1
    obtain ⟨⟨t, names, K, B⟩, hM⟩ := (tread_total (lexT s) hE.good (lexT s).length).1 [] 0 (-1) (2 * (lexT s).length + 2) hlp (by omega) (by omega)
    rw [hM]
    simp only
    refine (plcanon_any hE w hG _ t names K B hM).mono ?_
    rintro e w' ⟨hk, h1, h2, h3⟩
    refine ⟨?_, hk⟩
    by_cases hF : 0 ≤ needB (lexT s) { data := #[101, 110, 100] } K B
    · rw [if_pos hF]; exact h1 hF
    · rw [if_neg hF]
      by_cases hd : 120 < sz t
      · rw [if_pos hd]; exact h2 (by omega) hd
      · rw [if_neg hd]; exact h3 (by omega) (by omega)
end Go.Proofs.YtleenphlgbklmabGreatDoor
