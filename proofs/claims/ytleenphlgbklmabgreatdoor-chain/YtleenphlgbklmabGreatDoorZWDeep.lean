import Derived.Test.YtleenphlgbklmabGreatDoorZTree
set_option linter.unusedVariables false
set_option linter.unusedSimpArgs false
namespace Go.Proofs.YtleenphlgbklmabGreatDoor

mutual
def expM (l : List Tk) : Nat → Nat → Int → Option (X × Nat × Int)
  | 0, _, _ => none
  | n + 1, k, bad =>
    if 0 ≤ bad then some (.mk { data := #[] } [] [] (tkAt l k).loc, k, bad)
    else if isM l { data := #[102, 117, 110] } k bad then
      (expM l n (takeK l { data := #[45, 62] } (takeK l { data := #[110, 97, 109, 101] } (k + 1) bad) (needB l { data := #[110, 97, 109, 101] } (k + 1) bad)) (needB l { data := #[45, 62] } (takeK l { data := #[110, 97, 109, 101] } (k + 1) bad) (needB l { data := #[110, 97, 109, 101] } (k + 1) bad))).bind fun r =>
        some (.mk { data := #[102, 117, 110] } [(tkAt l (k + 1)).s] [r.1] (tkAt l k).loc, r.2.1, r.2.2)
    else if isM l { data := #[105, 102] } k bad then
      (expM l n (k + 1) bad).bind fun r =>
      (expM l n (takeK l { data := #[116, 104, 101, 110] } r.2.1 r.2.2) (needB l { data := #[116, 104, 101, 110] } r.2.1 r.2.2)).bind fun s =>
      (expM l n (takeK l { data := #[101, 108, 115, 101] } s.2.1 s.2.2) (needB l { data := #[101, 108, 115, 101] } s.2.1 s.2.2)).bind fun t =>
        some (.mk { data := #[105, 102] } [] [r.1, s.1, t.1] (tkAt l k).loc, t.2.1, t.2.2)
    else if isM l { data := #[108, 101, 116] } k bad then
      if isM l { data := #[114, 101, 99] } (k + 1) bad then
        (boundM l n [] [] (k + 2) bad).bind fun r =>
        (andM l n r.1 r.2.1 r.2.2.1 r.2.2.2).bind fun s =>
        (expM l n (takeK l { data := #[105, 110] } s.2.2.1 s.2.2.2) (needB l { data := #[105, 110] } s.2.2.1 s.2.2.2)).bind fun t =>
          some (.mk { data := #[114, 101, 99] } s.1 (s.2.1 ++ [t.1]) (tkAt l k).loc, t.2.1, t.2.2)
      else
        (boundM l n [] [] (k + 1) bad).bind fun s =>
        (expM l n (takeK l { data := #[105, 110] } s.2.2.1 s.2.2.2) (needB l { data := #[105, 110] } s.2.2.1 s.2.2.2)).bind fun t =>
          some (.mk { data := #[108, 101, 116] } s.1 (s.2.1 ++ [t.1]) (tkAt l k).loc, t.2.1, t.2.2)
    else
      (atomM l n k bad).bind fun r => appM l n r.1 r.2.1 r.2.2
def boundM (l : List Tk) : Nat → List ByteArray → List X → Nat → Int → Option (List ByteArray × List X × Nat × Int)
  | 0, _, _, _, _ => none
  | n + 1, names, kids, k, bad =>
    let b2 := dupB names (tkAt l k).s (tkAt l k).loc (needB l { data := #[110, 97, 109, 101] } k bad)
    (expM l n (takeK l { data := #[61] } (takeK l { data := #[110, 97, 109, 101] } k bad) b2) (needB l { data := #[61] } (takeK l { data := #[110, 97, 109, 101] } k bad) b2)).bind fun r =>
      some (names ++ [(tkAt l k).s], kids ++ [r.1], r.2.1, r.2.2)
def andM (l : List Tk) : Nat → List ByteArray → List X → Nat → Int → Option (List ByteArray × List X × Nat × Int)
  | 0, _, _, _, _ => none
  | n + 1, names, kids, k, bad =>
    if isM l { data := #[97, 110, 100] } k bad then
      (boundM l n names kids (k + 1) bad).bind fun r => andM l n r.1 r.2.1 r.2.2.1 r.2.2.2
    else some (names, kids, k, bad)
def atomM (l : List Tk) : Nat → Nat → Int → Option (X × Nat × Int)
  | 0, _, _ => none
  | n + 1, k, bad =>
    if isM l { data := #[110, 97, 109, 101] } k bad || isM l { data := #[110, 117, 109] } k bad then some (.mk (tkAt l k).is [(tkAt l k).s] [] (tkAt l k).loc, k + 1, bad)
    else
      (expM l n (takeK l { data := #[40] } k bad) (needB l { data := #[40] } k bad)).bind fun r =>
      if isM l { data := #[44] } r.2.1 r.2.2 then
        (expM l n (r.2.1 + 1) r.2.2).bind fun s =>
          some (.mk { data := #[112, 97, 105, 114] } [] [r.1, s.1] (tkAt l k).loc, takeK l { data := #[41] } s.2.1 s.2.2, needB l { data := #[41] } s.2.1 s.2.2)
      else some (r.1, takeK l { data := #[41] } r.2.1 r.2.2, needB l { data := #[41] } r.2.1 r.2.2)
def appM (l : List Tk) : Nat → X → Nat → Int → Option (X × Nat × Int)
  | 0, _, _, _ => none
  | n + 1, x, k, bad =>
    if isM l { data := #[110, 97, 109, 101] } k bad || isM l { data := #[110, 117, 109] } k bad || isM l { data := #[40] } k bad then
      (atomM l n k bad).bind fun r => appM l n (.mk { data := #[97, 112, 112] } [] [x, r.1] x.loc) r.2.1 r.2.2
    else some (x, k, bad)
end

/-- no token but the last is an end, or none. -/
def Good (l : List Tk) : Prop := ∀ k, k < l.length → ∀ s : ByteArray, s.data.toList ≠ ({ data := #[101, 110, 100] } : ByteArray).data.toList → s.data.toList ≠ ({ data := #[110, 111, 110, 101] } : ByteArray).data.toList → ((tkAt l k).is.data.toList == s.data.toList) = true → k + 1 < l.length

theorem isM_lt {l : List Tk} {s : ByteArray} {k : Nat} {bad : Int} (hg : Good l) (hk : k < l.length) (h : isM l s k bad = true) (h1 : s.data.toList ≠ ({ data := #[101, 110, 100] } : ByteArray).data.toList) (h2 : s.data.toList ≠ ({ data := #[110, 111, 110, 101] } : ByteArray).data.toList) : k + 1 < l.length := by
  simp only [isM, Bool.and_eq_true] at h
  exact hg k hk s h1 h2 h.2
theorem takeK_lt {l : List Tk} {s : ByteArray} {k : Nat} {bad : Int} (hg : Good l) (hk : k < l.length) (h1 : s.data.toList ≠ ({ data := #[101, 110, 100] } : ByteArray).data.toList) (h2 : s.data.toList ≠ ({ data := #[110, 111, 110, 101] } : ByteArray).data.toList) : takeK l s k bad < l.length := by
  unfold takeK
  split
  · exact isM_lt hg hk (by assumption) h1 h2
  · exact hk
end Go.Proofs.YtleenphlgbklmabGreatDoor

namespace Go.Proofs.YtleenphlgbklmabGreatDoor

theorem clsK_bd (s : ByteArray) (i : Nat) (h : i ≤ s.size) : i ≤ clsK s i ∧ clsK s i ≤ s.size := by
  unfold clsK
  split
  · split
    · exact ⟨run_ge _ _ _, run_le _ _ _ h⟩
    · split
      · exact ⟨run_ge _ _ _, run_le _ _ _ h⟩
      · split
        · rename_i hh; omega
        · split <;> omega
  · omega
theorem toks_len (s : ByteArray) (kws : List ByteArray) : ∀ n i, (toksF s kws n i).length ≤ n
  | 0, i => by simp [toksF]
  | n + 1, i => by
    rw [toksF]
    split
    · simp
    · simp only [List.length_cons]
      have := toks_len s kws n (tok1 s kws (run blI s i)).2
      omega
theorem tkAt_zero (t : Tk) (l : List Tk) : tkAt (t :: l) 0 = t := by simp [tkAt]
theorem tkAt_succ (t : Tk) (l : List Tk) (k : Nat) : tkAt (t :: l) (k + 1) = tkAt l k := by simp [tkAt]
theorem toks_last (s : ByteArray) (kws : List ByteArray) : ∀ n i, i ≤ s.size → s.size + 1 ≤ i + n → ∀ k, k < (toksF s kws n i).length → lastT (tkAt (toksF s kws n i) k) = false → k + 1 < (toksF s kws n i).length
  | 0, i, h1, h2, k, hk, hl => by omega
  | n + 1, i, h1, h2, k, hk, hl => by
    rw [toksF] at hk hl ⊢
    split at hk
    · rename_i c
      rw [if_pos c] at hl
      simp only [List.length_cons, List.length_nil] at hk
      have : k = 0 := by omega
      subst this
      rw [tkAt_zero, c] at hl
      cases hl
    · rename_i c
      rw [if_neg c] at hl ⊢
      have c' : lastT (tok1 s kws (run blI s i)).1 = false := by simpa using c
      have g1 := tok1_gt s kws _ c'
      have g2 := run_ge blI s i
      have g3 := run_le blI s i h1
      have g4 := (clsK_bd s _ g3).2
      have e2 : (tok1 s kws (run blI s i)).2 = clsK s (run blI s i) := rfl
      have ihn := toks_last s kws n (tok1 s kws (run blI s i)).2 (by rw [e2]; exact g4) (by rw [e2]; omega)
      cases k with
      | zero =>
        have : 0 < (toksF s kws n (tok1 s kws (run blI s i)).2).length := by
          cases n with
          | zero => omega
          | succ n => rw [toksF]; split <;> simp
        simp only [List.length_cons]
        omega
      | succ k =>
        simp only [List.length_cons] at hk ⊢
        rw [tkAt_succ] at hl
        have := ihn k (by omega) hl
        omega
theorem toks_good (s : ByteArray) (kws : List ByteArray) : Good (toksF s kws (s.size + 1) 0) := by
  intro k hk w h1 h2 he
  refine toks_last s kws (s.size + 1) 0 (by omega) (by omega) k hk ?_
  simp only [beq_iff_eq] at he
  simp only [lastT, he, Bool.or_eq_false_iff, beq_eq_false_iff_ne]
  exact ⟨h2, h1⟩
theorem toks_pos (s : ByteArray) (kws : List ByteArray) : 0 < (toksF s kws (s.size + 1) 0).length := by
  rw [toksF]; split <;> simp
theorem toks_size (s : ByteArray) (kws : List ByteArray) : ∀ n i k, (tkAt (toksF s kws n i) k).s.size ≤ s.size
  | 0, i, k => by
    have : tkAt (toksF s kws 0 i) k = Tk.no := by simp [tkAt, toksF]
    rw [this]
    exact Nat.zero_le _
  | n + 1, i, k => by
    have ht : (tok1 s kws (run blI s i)).1.s.size ≤ s.size := by
      show (s.extract _ _).size ≤ s.size
      rw [ByteArray.size_extract]
      omega
    rw [toksF]
    split
    · cases k with
      | zero => rw [tkAt_zero]; exact ht
      | succ k => rw [tkAt_succ]; exact Nat.zero_le _
    · cases k with
      | zero => rw [tkAt_zero]; exact ht
      | succ k => rw [tkAt_succ]; exact toks_size s kws n _ k
end Go.Proofs.YtleenphlgbklmabGreatDoor

namespace Go.Proofs.YtleenphlgbklmabGreatDoor
open Go.RowKit

/-- a type of the document's reader. -/
inductive Ty where
  | mk (kind : ByteArray) (num : Nat) (kids : List Ty)


end Go.Proofs.YtleenphlgbklmabGreatDoor

namespace Go.Proofs.YtleenphlgbklmabGreatDoor
open Go.RowKit

def sameS (m n : ByteArray) : Bool := m.data.toList == n.data.toList
/-- a name among the names: its variable; the names behind it. -/
def nameM (names : List ByteArray) (nm : ByteArray) : Ty × List ByteArray :=
  match names.findIdx? (fun m => sameS m nm) with
  | some j => (.mk { data := #[] } j [], names)
  | none => (.mk { data := #[] } names.length [], names ++ [nm])

mutual
def arrowM (l : List Tk) : Nat → List ByteArray → Nat → Int → Option (Ty × List ByteArray × Nat × Int)
  | 0, _, _, _ => none
  | n + 1, names, k, bad =>
    (oneM l n names k bad).bind fun r =>
      if isM l { data := #[45, 62] } r.2.2.1 r.2.2.2 then
        (arrowM l n r.2.1 (r.2.2.1 + 1) r.2.2.2).bind fun s => some (.mk { data := #[102, 117, 110] } 0 [r.1, s.1], s.2.1, s.2.2.1, s.2.2.2)
      else some (r.1, r.2.1, r.2.2.1, r.2.2.2)
def oneM (l : List Tk) : Nat → List ByteArray → Nat → Int → Option (Ty × List ByteArray × Nat × Int)
  | 0, _, _, _ => none
  | n + 1, names, k, bad =>
    if isM l { data := #[105, 110, 116] } k bad then some (.mk { data := #[105, 110, 116] } 0 [], names, k + 1, bad)
    else if isM l { data := #[98, 111, 111, 108] } k bad then some (.mk { data := #[98, 111, 111, 108] } 0 [], names, k + 1, bad)
    else if isM l { data := #[91] } k bad then
      (arrowM l n names (k + 1) bad).bind fun r =>
        some (.mk { data := #[108, 105, 115, 116] } 0 [r.1], r.2.1, takeK l { data := #[93] } r.2.2.1 r.2.2.2, needB l { data := #[93] } r.2.2.1 r.2.2.2)
    else if isM l { data := #[40] } k bad then
      (arrowM l n names (k + 1) bad).bind fun r =>
        if isM l { data := #[44] } r.2.2.1 r.2.2.2 then
          (arrowM l n r.2.1 (r.2.2.1 + 1) r.2.2.2).bind fun s =>
            some (.mk { data := #[112, 97, 105, 114] } 0 [r.1, s.1], s.2.1, takeK l { data := #[41] } s.2.2.1 s.2.2.2, needB l { data := #[41] } s.2.2.1 s.2.2.2)
        else some (r.1, r.2.1, takeK l { data := #[41] } r.2.2.1 r.2.2.2, needB l { data := #[41] } r.2.2.1 r.2.2.2)
    else some ((nameM names (tkAt l k).s).1, (nameM names (tkAt l k).s).2, takeK l { data := #[110, 97, 109, 101] } k bad, needB l { data := #[110, 97, 109, 101] } k bad)
end

theorem sameS_iff (m n : ByteArray) : sameS m n = true ↔ m = n := by
  unfold sameS
  rw [beq_iff_eq]
  constructor
  · intro h
    cases m; cases n
    simp at h
    rw [h]
  · intro h; rw [h]
/-- names: each once, each some token's text. -/
structure NmOk (l : List Tk) (names : List ByteArray) : Prop where
  nd : names.Nodup
  of : ∀ m, m ∈ names → ∃ k, k < l.length ∧ (tkAt l k).s = m
theorem NmOk.nil (l : List Tk) : NmOk l [] := ⟨List.nodup_nil, fun _ h => nomatch h⟩
theorem NmOk.name {l : List Tk} {names : List ByteArray} (h : NmOk l names) {k : Nat} (hk : k < l.length) : NmOk l (nameM names (tkAt l k).s).2 := by
  unfold nameM
  split
  · exact h
  · rename_i e
    rw [List.findIdx?_eq_none_iff] at e
    refine ⟨?_, ?_⟩
    · refine List.nodup_append.2 ⟨h.nd, by simp, ?_⟩
      intro a ha b hb
      simp at hb
      subst hb
      intro q
      have := e a ha
      rw [(sameS_iff a _).2 q] at this
      simp at this
    · intro m hm
      simp at hm
      rcases hm with hm | rfl
      · exact h.of m hm
      · exact ⟨k, hk, rfl⟩

theorem tread_ok (l : List Tk) (hG : Good l) : ∀ n, (∀ names k bad t names' k' bad', arrowM l n names k bad = some (t, names', k', bad') → k < l.length → NmOk l names → k' < l.length ∧ NmOk l names') ∧
    (∀ names k bad t names' k' bad', oneM l n names k bad = some (t, names', k', bad') → k < l.length → NmOk l names → k' < l.length ∧ NmOk l names') := by
  intro n
  induction n with
  | zero => exact ⟨fun _ _ _ _ _ _ _ h => by simp [arrowM] at h, fun _ _ _ _ _ _ _ h => by simp [oneM] at h⟩
  | succ n ih =>
    refine ⟨?_, ?_⟩
    · intro names k bad t names' k' bad' h hk ho
      simp only [arrowM] at h
      obtain ⟨⟨x, n1, k1, b1⟩, h1, h2⟩ := Option.bind_eq_some_iff.1 h
      obtain ⟨hk1, ho1⟩ := ih.2 _ _ _ _ _ _ _ h1 hk ho
      simp only at h2
      split at h2
      · rename_i hM
        obtain ⟨⟨y, n2, k2, b2⟩, h3, h4⟩ := Option.bind_eq_some_iff.1 h2
        obtain ⟨hk2, ho2⟩ := ih.1 _ _ _ _ _ _ _ h3 (isM_lt hG hk1 hM (by decide) (by decide)) ho1
        simp only [Option.some.injEq, Prod.mk.injEq] at h4
        obtain ⟨_, rfl, rfl, _⟩ := h4
        exact ⟨hk2, ho2⟩
      · simp only [Option.some.injEq, Prod.mk.injEq] at h2
        obtain ⟨_, rfl, rfl, _⟩ := h2
        exact ⟨hk1, ho1⟩
    · intro names k bad t names' k' bad' h hk ho
      simp only [oneM] at h
      split at h
      · rename_i hM
        simp only [Option.some.injEq, Prod.mk.injEq] at h
        obtain ⟨_, rfl, rfl, _⟩ := h
        exact ⟨isM_lt hG hk hM (by decide) (by decide), ho⟩
      · split at h
        · rename_i hM
          simp only [Option.some.injEq, Prod.mk.injEq] at h
          obtain ⟨_, rfl, rfl, _⟩ := h
          exact ⟨isM_lt hG hk hM (by decide) (by decide), ho⟩
        · split at h
          · rename_i hM
            obtain ⟨⟨x, n1, k1, b1⟩, h1, h2⟩ := Option.bind_eq_some_iff.1 h
            obtain ⟨hk1, ho1⟩ := ih.1 _ _ _ _ _ _ _ h1 (isM_lt hG hk hM (by decide) (by decide)) ho
            simp only [Option.some.injEq, Prod.mk.injEq] at h2
            obtain ⟨_, rfl, rfl, _⟩ := h2
            exact ⟨takeK_lt hG hk1 (by decide) (by decide), ho1⟩
          · split at h
            · rename_i hM
              obtain ⟨⟨x, n1, k1, b1⟩, h1, h2⟩ := Option.bind_eq_some_iff.1 h
              obtain ⟨hk1, ho1⟩ := ih.1 _ _ _ _ _ _ _ h1 (isM_lt hG hk hM (by decide) (by decide)) ho
              simp only at h2
              split at h2
              · rename_i hM2
                obtain ⟨⟨y, n2, k2, b2⟩, h3, h4⟩ := Option.bind_eq_some_iff.1 h2
                obtain ⟨hk2, ho2⟩ := ih.1 _ _ _ _ _ _ _ h3 (isM_lt hG hk1 hM2 (by decide) (by decide)) ho1
                simp only [Option.some.injEq, Prod.mk.injEq] at h4
                obtain ⟨_, rfl, rfl, _⟩ := h4
                exact ⟨takeK_lt hG hk2 (by decide) (by decide), ho2⟩
              · simp only [Option.some.injEq, Prod.mk.injEq] at h2
                obtain ⟨_, rfl, rfl, _⟩ := h2
                exact ⟨takeK_lt hG hk1 (by decide) (by decide), ho1⟩
            · simp only [Option.some.injEq, Prod.mk.injEq] at h
              obtain ⟨_, rfl, rfl, _⟩ := h
              exact ⟨takeK_lt hG hk (by decide) (by decide), ho.name hk⟩

/-- the names of variables: the list that a cell holds. -/
structure Nm (w : World) (nb B : Nat) (names : List ByteArray) : Prop where
  ex : ∃ nv, w.heap[nb]? = some (.cells #[nv] 26 (0, 0)) ∧ w.ownsRow B 9 1 nv names.length (names.map Value.string)
  low : B ≤ nb

end Go.Proofs.YtleenphlgbklmabGreatDoor

namespace Go.Proofs.YtleenphlgbklmabGreatDoor

/-- a fault once told stays; without one no token is asked. -/
theorem isM_of_bad {l : List Tk} {s : ByteArray} {k : Nat} {bad : Int} (h : 0 ≤ bad) : isM l s k bad = false := by
  have : ¬ bad < 0 := by omega
  simp [isM, this]
theorem needB_of_bad {l : List Tk} {s : ByteArray} {k : Nat} {bad : Int} (h : 0 ≤ bad) : needB l s k bad = bad := by
  have : ¬ bad < 0 := by omega
  simp [needB, this]
/-- behind need: a fault, or the token was taken. -/
theorem need_or {l : List Tk} {s : ByteArray} {k : Nat} {bad : Int} (hb : bad < 0) : (isM l s k bad = true ∧ takeK l s k bad = k + 1 ∧ needB l s k bad = bad) ∨ (0 ≤ needB l s k bad ∧ takeK l s k bad = k) := by
  cases h : isM l s k bad
  · right
    refine ⟨?_, by simp [takeK, h]⟩
    simp [needB, h, hb]
  · left
    exact ⟨rfl, by simp [takeK, h], by simp [needB, h]⟩
theorem dupB_or {names : List ByteArray} {s : ByteArray} {loc : Nat} {bad : Int} : dupB names s loc bad = bad ∨ 0 ≤ dupB names s loc bad := by
  unfold dupB; split
  · right; omega
  · left; rfl

end Go.Proofs.YtleenphlgbklmabGreatDoor

namespace Go.Proofs.YtleenphlgbklmabGreatDoor
open Go.RowKit

mutual
theorem X.ind {P : X → Prop} (h : ∀ op names kids loc, (∀ y, y ∈ kids → P y) → P (.mk op names kids loc)) : ∀ x, P x
  | .mk op names kids loc => h op names kids loc (X.indL h kids)
theorem X.indL {P : X → Prop} (h : ∀ op names kids loc, (∀ y, y ∈ kids → P y) → P (.mk op names kids loc)) : ∀ (xs : List X) y, y ∈ xs → P y
  | [], y, hy => nomatch hy
  | x :: xs, y, hy => by
    rcases List.mem_cons.1 hy with e | e
    · rw [e]; exact X.ind h x
    · exact X.indL h xs y e
end

mutual
def dp : X → Nat
  | .mk _ _ kids _ => dps kids + 1
def dps : List X → Nat
  | [] => 0
  | x :: xs => max (dp x) (dps xs)
end
theorem dps_append (xs : List X) (y : X) : dps (xs ++ [y]) = max (dps xs) (dp y) := by
  induction xs with
  | nil => simp [dps]
  | cons x xs ih => simp only [List.cons_append, dps, ih]; omega
theorem dps_le {xs : List X} {y : X} (h : y ∈ xs) : dp y ≤ dps xs := by
  induction xs with
  | nil => cases h
  | cons x xs ih =>
    simp only [dps]
    rcases List.mem_cons.1 h with e | e
    · rw [e]; omega
    · have := ih e; omega
theorem dps_take_le (xs : List X) (q : Nat) : dps (xs.take q) ≤ dps xs := by
  induction xs generalizing q with
  | nil => simp
  | cons x xs ih =>
    cases q with
    | zero => simp [dps]
    | succ q => simp only [List.take_succ_cons, dps]; have := ih q; omega
def X.none : X := .mk { data := #[] } [] [] 0
theorem row_form {w : World} {B : Nat} {e : TypeId} {v : Value} {ps : List Value} (h : w.ownsRow B e 1 v ps.length ps) :
    ∃ ao cap, v = .slice ao ps.length cap ∧ ∀ i, i < ps.length → ∃ g, ao = some ⟨g, 0, none⟩ ∧ w.cell? ⟨g, i, none⟩ = ps[i]? := by
  rcases h.2 with ⟨rfl, e⟩ | ⟨g, cap, cur, rfl, hb, h3⟩
  · exact ⟨none, 0, by rw [e], fun i hi => by omega⟩
  · exact ⟨some ⟨g, 0, none⟩, cap, rfl, fun i hi => ⟨g, rfl, h.cellAt i (by omega)⟩⟩

end Go.Proofs.YtleenphlgbklmabGreatDoor
