import Derived.Test.YtleenphlgbklmaaGreatDoorRTokList
import Derived.Test.YtleenphlgbklmaaGreatDoorRMem
import Derived.Deep.RegionWith
set_option linter.unusedVariables false
set_option linter.unusedSimpArgs false
namespace Go.Proofs.YtleenphlgbklmaaGreatDoor
open Go.RowKit

/-- a type of the document's reader. -/
inductive Ty where
  | mk (kind : ByteArray) (num : Nat) (kids : List Ty)

mutual
/-- the value leads to that type. -/
def TRep (w : World) : Ty → Value → Prop
  | .mk kd n kids, p => ∃ b lv ps, p = .pointer (some ⟨b, 0, none⟩) ∧ w.heap[b]? = some (.cells #[.string kd, .int .i64 n, lv] 104 (0, 0)) ∧ w.ownsRow 0 33 1 lv ps.length ps ∧ TReps w kids ps
def TReps (w : World) : List Ty → List Value → Prop
  | [], ps => ps = []
  | t :: ts, ps => ∃ p qs, ps = p :: qs ∧ TRep w t p ∧ TReps w ts qs
end

theorem TRep.ptr {w : World} : ∀ {t : Ty} {p : Value}, TRep w t p → ∃ b, p = .pointer (some ⟨b, 0, none⟩)
  | .mk _ _ _, _, h => by
    simp only [TRep] at h
    obtain ⟨b, _, _, h1, _⟩ := h
    exact ⟨b, h1⟩

/-- every block of types is as it was. -/
def TKeep (w w' : World) : Prop := ∀ (k : Nat) (cs : Array Value) (e : TypeId) (f : Nat × Nat), e = 104 ∨ e = 33 → w.heap[k]? = some (.cells cs e f) → w'.heap[k]? = some (.cells cs e f)
theorem TKeep.refl (w : World) : TKeep w w := fun _ _ _ _ _ h => h
theorem TKeep.trans {a b c : World} (h : TKeep a b) (k : TKeep b c) : TKeep a c := fun q cs e f he hq => k q cs e f he (h q cs e f he hq)
theorem TKeep.kp {S : Nat → Prop} {w w' : World} (h : Kp S w w') (hS : ∀ k, S k → ∀ cs e f, w.heap[k]? = some (.cells cs e f) → e ≠ 104 ∧ e ≠ 33) : TKeep w w' := fun k cs e f he hk =>
  h.blk hk (fun s => by have := hS k s cs e f hk; rcases he with rfl | rfl; exact this.1 rfl; exact this.2 rfl)
theorem TKeep.below {w w' : World} (h : Below w.heap.size w w') : TKeep w w' := fun k cs e f _ hk => (h.block k (lt_of_block hk)).trans hk
theorem TKeep.alloc (w : World) (o : Obj) : TKeep w (w.alloc o) := fun k cs e f _ hk => (Below.heap_alloc w o k (lt_of_block hk)).trans hk

theorem ownsRow_tkeep {w w' : World} {b : Nat} {v : Value} {n : Nat} {xs : List Value} (h : w.ownsRow b 33 1 v n xs) (hk : TKeep w w') : w'.ownsRow b 33 1 v n xs := by
  refine ⟨h.1, ?_⟩
  rcases h.2 with h | ⟨g, cap, cur, h1, h2, h3, h4⟩
  · exact .inl h
  · exact .inr ⟨g, cap, cur, h1, h2, hk g cur 33 (0, 0) (.inr rfl) h3, h4⟩

mutual
theorem TRep.keep {w w' : World} (hk : TKeep w w') : ∀ (t : Ty) {p : Value}, TRep w t p → TRep w' t p
  | .mk kd n kids, p, h => by
    simp only [TRep] at h ⊢
    obtain ⟨b, lv, ps, h1, h2, h3, h4⟩ := h
    exact ⟨b, lv, ps, h1, hk b _ 104 (0, 0) (.inl rfl) h2, ownsRow_tkeep h3 hk, TReps.keep hk kids h4⟩
theorem TReps.keep {w w' : World} (hk : TKeep w w') : ∀ (ts : List Ty) {ps : List Value}, TReps w ts ps → TReps w' ts ps
  | [], ps, h => by simpa only [TReps] using h
  | t :: ts, ps, h => by
    simp only [TReps] at h ⊢
    obtain ⟨p, qs, h1, h2, h3⟩ := h
    exact ⟨p, qs, h1, TRep.keep hk t h2, TReps.keep hk ts h3⟩
end
theorem TReps.len {w : World} : ∀ {ts : List Ty} {ps : List Value}, TReps w ts ps → ps.length = ts.length
  | [], ps, h => by simp only [TReps] at h; rw [h]; rfl
  | t :: ts, ps, h => by
    simp only [TReps] at h
    obtain ⟨p, qs, rfl, h2, h3⟩ := h
    simp [h3.len]
theorem TReps.get {w : World} : ∀ {ts : List Ty} {ps : List Value}, TReps w ts ps → ∀ (i : Nat) (t : Ty), ts[i]? = some t → ∃ p, ps[i]? = some p ∧ TRep w t p
  | [], ps, h, i, t, hi => by simp at hi
  | t0 :: ts, ps, h, i, t, hi => by
    simp only [TReps] at h
    obtain ⟨p, qs, rfl, h2, h3⟩ := h
    cases i with
    | zero => simp at hi; subst hi; exact ⟨p, rfl, h2⟩
    | succ i => simp at hi; simpa using h3.get i t hi

/-- a leaf, just laid. -/
theorem tleaf (w : World) (kd : ByteArray) (n : Nat) : TRep (w.alloc (.cells #[.string kd, .int .i64 n, .slice none 0 0] 104)) (.mk kd n []) (.pointer (some ⟨w.heap.size, 0, none⟩)) := by
  simp only [TRep, TReps]
  exact ⟨w.heap.size, .slice none 0 0, [], rfl, heap_alloc_new _ _, World.ownsRow_nil _ _ _ _, rfl⟩
theorem tnode1 {w : World} {x : Ty} {p : Value} (kd : ByteArray) (hx : TRep w x p) :
    TRep ((w.alloc (.cells #[p] 33)).alloc (.cells #[.string kd, .int .i64 0, .slice (some ⟨w.heap.size, 0, none⟩) 1 1] 104)) (.mk kd 0 [x]) (.pointer (some ⟨w.heap.size + 1, 0, none⟩)) := by
  simp only [TRep, TReps]
  refine ⟨w.heap.size + 1, .slice (some ⟨w.heap.size, 0, none⟩) 1 1, [p], rfl, ?_, ?_, ?_⟩
  · have := heap_alloc_new (w.alloc (.cells #[p] 33)) (.cells #[.string kd, .int .i64 0, .slice (some ⟨w.heap.size, 0, none⟩) 1 1] 104)
    simpa using this
  · exact (World.ownsRow_lit (base := 0) (e := 33) (size := 1) w #[p] 1 (Nat.zero_le _) (by decide) rfl).alloc _
  · exact ⟨p, [], rfl, TRep.keep ((TKeep.alloc _ _).trans (TKeep.alloc _ _)) x hx, rfl⟩
theorem tnode2 {w : World} {x y : Ty} {p q : Value} (kd : ByteArray) (hx : TRep w x p) (hy : TRep w y q) :
    TRep ((w.alloc (.cells #[p, q] 33)).alloc (.cells #[.string kd, .int .i64 0, .slice (some ⟨w.heap.size, 0, none⟩) 2 2] 104)) (.mk kd 0 [x, y]) (.pointer (some ⟨w.heap.size + 1, 0, none⟩)) := by
  simp only [TRep, TReps]
  refine ⟨w.heap.size + 1, .slice (some ⟨w.heap.size, 0, none⟩) 2 2, [p, q], rfl, ?_, ?_, ?_⟩
  · have := heap_alloc_new (w.alloc (.cells #[p, q] 33)) (.cells #[.string kd, .int .i64 0, .slice (some ⟨w.heap.size, 0, none⟩) 2 2] 104)
    simpa using this
  · exact (World.ownsRow_lit (base := 0) (e := 33) (size := 1) w #[p, q] 2 (Nat.zero_le _) (by decide) rfl).alloc _
  · exact ⟨p, [q], rfl, TRep.keep ((TKeep.alloc _ _).trans (TKeep.alloc _ _)) x hx, q, [], rfl, TRep.keep ((TKeep.alloc _ _).trans (TKeep.alloc _ _)) y hy, rfl⟩
end Go.Proofs.YtleenphlgbklmaaGreatDoor

namespace Go.Proofs.YtleenphlgbklmaaGreatDoor
open Go.RowKit

def sameS (m n : ByteArray) : Bool := m.data.toList == n.data.toList
/-- a name among the names: its variable; the names behind it. -/
def nameM (names : List ByteArray) (nm : ByteArray) : Ty × List ByteArray :=
  match names.findIdx? (fun m => sameS m nm) with
  | some j => (.mk { data := #[] } j [], names)
  | none => (.mk { data := #[] } names.length [], names ++ [nm])

mutual
def arrowM (l : List Tk) : Nat → List ByteArray → Nat → Int → Option (Ty × List ByteArray × Nat × Int)
  | 0, _, _, _ => none
  | n + 1, names, k, bad =>
    (oneM l n names k bad).bind fun r =>
      if isM l { data := #[45, 62] } r.2.2.1 r.2.2.2 then
        (arrowM l n r.2.1 (r.2.2.1 + 1) r.2.2.2).bind fun s => some (.mk { data := #[102, 117, 110] } 0 [r.1, s.1], s.2.1, s.2.2.1, s.2.2.2)
      else some (r.1, r.2.1, r.2.2.1, r.2.2.2)
def oneM (l : List Tk) : Nat → List ByteArray → Nat → Int → Option (Ty × List ByteArray × Nat × Int)
  | 0, _, _, _ => none
  | n + 1, names, k, bad =>
    if isM l { data := #[105, 110, 116] } k bad then some (.mk { data := #[105, 110, 116] } 0 [], names, k + 1, bad)
    else if isM l { data := #[98, 111, 111, 108] } k bad then some (.mk { data := #[98, 111, 111, 108] } 0 [], names, k + 1, bad)
    else if isM l { data := #[91] } k bad then
      (arrowM l n names (k + 1) bad).bind fun r =>
        some (.mk { data := #[108, 105, 115, 116] } 0 [r.1], r.2.1, takeK l { data := #[93] } r.2.2.1 r.2.2.2, needB l { data := #[93] } r.2.2.1 r.2.2.2)
    else if isM l { data := #[40] } k bad then
      (arrowM l n names (k + 1) bad).bind fun r =>
        if isM l { data := #[44] } r.2.2.1 r.2.2.2 then
          (arrowM l n r.2.1 (r.2.2.1 + 1) r.2.2.2).bind fun s =>
            some (.mk { data := #[112, 97, 105, 114] } 0 [r.1, s.1], s.2.1, takeK l { data := #[41] } s.2.2.1 s.2.2.2, needB l { data := #[41] } s.2.2.1 s.2.2.2)
        else some (r.1, r.2.1, takeK l { data := #[41] } r.2.2.1 r.2.2.2, needB l { data := #[41] } r.2.2.1 r.2.2.2)
    else some ((nameM names (tkAt l k).s).1, (nameM names (tkAt l k).s).2, takeK l { data := #[110, 97, 109, 101] } k bad, needB l { data := #[110, 97, 109, 101] } k bad)
end

theorem sameS_iff (m n : ByteArray) : sameS m n = true ↔ m = n := by
  unfold sameS
  rw [beq_iff_eq]
  constructor
  · intro h
    cases m; cases n
    simp at h
    rw [h]
  · intro h; rw [h]
/-- names: each once, each some token's text. -/
structure NmOk (l : List Tk) (names : List ByteArray) : Prop where
  nd : names.Nodup
  of : ∀ m, m ∈ names → ∃ k, k < l.length ∧ (tkAt l k).s = m
theorem nodup_len {α : Type} [DecidableEq α] : ∀ (xs ys : List α), xs.Nodup → (∀ x, x ∈ xs → x ∈ ys) → xs.length ≤ ys.length
  | [], ys, _, _ => Nat.zero_le _
  | x :: xs, ys, hn, hs => by
    have hx := hs x (by simp)
    have h1 := nodup_len xs (ys.erase x) (List.nodup_cons.1 hn).2 (fun y hy => by
      have hne : y ≠ x := fun e => (List.nodup_cons.1 hn).1 (e ▸ hy)
      exact (List.mem_erase_of_ne hne).2 (hs y (by simp [hy])))
    rw [List.length_erase_of_mem hx] at h1
    have := List.length_pos_of_mem hx
    simp
    omega
theorem NmOk.len {l : List Tk} {names : List ByteArray} (h : NmOk l names) : names.length ≤ l.length := by
  have := nodup_len names (l.map Tk.s) h.nd (fun m hm => by
    obtain ⟨k, hk, e⟩ := h.of m hm
    simp only [tkAt, List.getD_eq_getElem?_getD, List.getElem?_eq_getElem hk, Option.getD_some] at e
    exact List.mem_map.2 ⟨l[k], List.getElem_mem hk, e⟩)
  simpa using this
theorem NmOk.nil (l : List Tk) : NmOk l [] := ⟨List.nodup_nil, fun _ h => nomatch h⟩
theorem NmOk.name {l : List Tk} {names : List ByteArray} (h : NmOk l names) {k : Nat} (hk : k < l.length) : NmOk l (nameM names (tkAt l k).s).2 := by
  unfold nameM
  split
  · exact h
  · rename_i e
    rw [List.findIdx?_eq_none_iff] at e
    refine ⟨?_, ?_⟩
    · refine List.nodup_append.2 ⟨h.nd, by simp, ?_⟩
      intro a ha b hb
      simp at hb
      subst hb
      intro q
      have := e a ha
      rw [(sameS_iff a _).2 q] at this
      simp at this
    · intro m hm
      simp at hm
      rcases hm with hm | rfl
      · exact h.of m hm
      · exact ⟨k, hk, rfl⟩

theorem tread_ok (l : List Tk) (hG : Good l) : ∀ n, (∀ names k bad t names' k' bad', arrowM l n names k bad = some (t, names', k', bad') → k < l.length → NmOk l names → k' < l.length ∧ NmOk l names') ∧
    (∀ names k bad t names' k' bad', oneM l n names k bad = some (t, names', k', bad') → k < l.length → NmOk l names → k' < l.length ∧ NmOk l names') := by
  intro n
  induction n with
  | zero => exact ⟨fun _ _ _ _ _ _ _ h => by simp [arrowM] at h, fun _ _ _ _ _ _ _ h => by simp [oneM] at h⟩
  | succ n ih =>
    refine ⟨?_, ?_⟩
    · intro names k bad t names' k' bad' h hk ho
      simp only [arrowM] at h
      obtain ⟨⟨x, n1, k1, b1⟩, h1, h2⟩ := Option.bind_eq_some_iff.1 h
      obtain ⟨hk1, ho1⟩ := ih.2 _ _ _ _ _ _ _ h1 hk ho
      simp only at h2
      split at h2
      · rename_i hM
        obtain ⟨⟨y, n2, k2, b2⟩, h3, h4⟩ := Option.bind_eq_some_iff.1 h2
        obtain ⟨hk2, ho2⟩ := ih.1 _ _ _ _ _ _ _ h3 (isM_lt hG hk1 hM (by decide) (by decide)) ho1
        simp only [Option.some.injEq, Prod.mk.injEq] at h4
        obtain ⟨_, rfl, rfl, _⟩ := h4
        exact ⟨hk2, ho2⟩
      · simp only [Option.some.injEq, Prod.mk.injEq] at h2
        obtain ⟨_, rfl, rfl, _⟩ := h2
        exact ⟨hk1, ho1⟩
    · intro names k bad t names' k' bad' h hk ho
      simp only [oneM] at h
      split at h
      · rename_i hM
        simp only [Option.some.injEq, Prod.mk.injEq] at h
        obtain ⟨_, rfl, rfl, _⟩ := h
        exact ⟨isM_lt hG hk hM (by decide) (by decide), ho⟩
      · split at h
        · rename_i hM
          simp only [Option.some.injEq, Prod.mk.injEq] at h
          obtain ⟨_, rfl, rfl, _⟩ := h
          exact ⟨isM_lt hG hk hM (by decide) (by decide), ho⟩
        · split at h
          · rename_i hM
            obtain ⟨⟨x, n1, k1, b1⟩, h1, h2⟩ := Option.bind_eq_some_iff.1 h
            obtain ⟨hk1, ho1⟩ := ih.1 _ _ _ _ _ _ _ h1 (isM_lt hG hk hM (by decide) (by decide)) ho
            simp only [Option.some.injEq, Prod.mk.injEq] at h2
            obtain ⟨_, rfl, rfl, _⟩ := h2
            exact ⟨takeK_lt hG hk1 (by decide) (by decide), ho1⟩
          · split at h
            · rename_i hM
              obtain ⟨⟨x, n1, k1, b1⟩, h1, h2⟩ := Option.bind_eq_some_iff.1 h
              obtain ⟨hk1, ho1⟩ := ih.1 _ _ _ _ _ _ _ h1 (isM_lt hG hk hM (by decide) (by decide)) ho
              simp only at h2
              split at h2
              · rename_i hM2
                obtain ⟨⟨y, n2, k2, b2⟩, h3, h4⟩ := Option.bind_eq_some_iff.1 h2
                obtain ⟨hk2, ho2⟩ := ih.1 _ _ _ _ _ _ _ h3 (isM_lt hG hk1 hM2 (by decide) (by decide)) ho1
                simp only [Option.some.injEq, Prod.mk.injEq] at h4
                obtain ⟨_, rfl, rfl, _⟩ := h4
                exact ⟨takeK_lt hG hk2 (by decide) (by decide), ho2⟩
              · simp only [Option.some.injEq, Prod.mk.injEq] at h2
                obtain ⟨_, rfl, rfl, _⟩ := h2
                exact ⟨takeK_lt hG hk1 (by decide) (by decide), ho1⟩
            · simp only [Option.some.injEq, Prod.mk.injEq] at h
              obtain ⟨_, rfl, rfl, _⟩ := h
              exact ⟨takeK_lt hG hk (by decide) (by decide), ho.name hk⟩

/-- the names of variables: the list that a cell holds. -/
structure Nm (w : World) (nb B : Nat) (names : List ByteArray) : Prop where
  ex : ∃ nv, w.heap[nb]? = some (.cells #[nv] 34 (0, 0)) ∧ w.ownsRow B 9 1 nv names.length (names.map Value.string)
  low : B ≤ nb

theorem Nm.kp {w w' : World} {nb B rb : Nat} {names : List ByteArray} (h : Nm w nb B names) (g : Kp (· = rb) w w') (hr : rb < B) : Nm w' nb B names := by
  obtain ⟨nv, h1, h2⟩ := h.ex
  have hl := h.low
  exact ⟨⟨nv, g.blk h1 (by show ¬ nb = rb; omega), ownsRow_same h2 (fun k e => g.block k (h2.lt k e).2 (by show ¬ k = rb; have := (h2.lt k e).1; omega))⟩, h.low⟩
theorem Nm.alloc {w : World} {nb B : Nat} {names : List ByteArray} (h : Nm w nb B names) (o : Obj) : Nm (w.alloc o) nb B names := by
  obtain ⟨nv, h1, h2⟩ := h.ex
  exact ⟨⟨nv, (Below.heap_alloc w o nb (lt_of_block h1)).trans h1, h2.alloc o⟩, h.low⟩
theorem Nm.drew {w : World} {nb B : Nat} {names : List ByteArray} (h : Nm w nb B names) : Nm w.drew nb B names := by
  obtain ⟨nv, h1, h2⟩ := h.ex
  exact ⟨⟨nv, h1, ownsRow_same h2 (fun _ _ => rfl)⟩, h.low⟩
theorem TKeep.drew (w : World) : TKeep w w.drew := fun _ _ _ _ _ h => h
theorem TKeep.drewN (w : World) (n : Nat) : TKeep w (w.drewN n) := fun _ _ _ _ _ h => h
/-- the reader alone has turned. -/
theorem TKeep.rd {w w' : World} {rb tb c : Nat} {l : List Tk} {k : Nat} {bad : Int} (h : Rd w rb tb c l k bad) (g : Kp (· = rb) w w') : TKeep w w' :=
  TKeep.kp g (fun q hq cs e f hc => by
    have hq : q = rb := hq
    subst hq
    rw [h.rd] at hc
    simp at hc
    obtain ⟨_, rfl, _⟩ := hc
    decide)

/-- what the reader of types leaves. -/
structure TEnd (w w' : World) (rb tb c : Nat) (l : List Tk) (k' : Nat) (bad' : Int) (nb B : Nat) (names' : List ByteArray) : Prop where
  kp : Kp (fun q => q = rb ∨ B ≤ q) w w'
  tk : TKeep w w'
  rd : Rd w' rb tb c l k' bad'
  kl : k' < l.length
  nm : Nm w' nb B names'

def SArr (l : List Tk) (n : Nat) : Prop := ∀ (w : World) (rb tb c k : Nat) (bad : Int) (nb B : Nat) (names : List ByteArray) (t : Ty) (names' : List ByteArray) (k' : Nat) (bad' : Int), Rd w rb tb c l k bad → k < l.length → Nm w nb B names → rb < B → tb < B → NmOk l names → arrowM l n names k bad = some (t, names', k', bad') →
  Calls Tryz.prog 45 #[.pointer (some ⟨rb, 0, none⟩), .pointer (some ⟨nb, 0, none⟩)] w fun e w' => ∃ p, e = .returned p ∧ TRep w' t p ∧ TEnd w w' rb tb c l k' bad' nb B names'
def SOne (l : List Tk) (n : Nat) : Prop := ∀ (w : World) (rb tb c k : Nat) (bad : Int) (nb B : Nat) (names : List ByteArray) (t : Ty) (names' : List ByteArray) (k' : Nat) (bad' : Int), Rd w rb tb c l k bad → k < l.length → Nm w nb B names → rb < B → tb < B → NmOk l names → oneM l n names k bad = some (t, names', k', bad') →
  Calls Tryz.prog 83 #[.pointer (some ⟨rb, 0, none⟩), .pointer (some ⟨nb, 0, none⟩)] w fun e w' => ∃ p, e = .returned p ∧ TRep w' t p ∧ TEnd w w' rb tb c l k' bad' nb B names'
end Go.Proofs.YtleenphlgbklmaaGreatDoor

namespace Go.Proofs.YtleenphlgbklmaaGreatDoor
open Go.RowKit

set_option maxHeartbeats 1000000 in
theorem is_any (w : World) (rb tb c : Nat) (l : List Tk) (k : Nat) (bad : Int) (s : ByteArray) (h : Rd w rb tb c l k bad) (hk : k < l.length) (hl : l.length ≤ 1000) :
    Calls Tryz.prog 79 #[.pointer (some ⟨rb, 0, none⟩), .string s] w fun e w' => e = .returned (.bool (isM l s k bad)) ∧ ∃ n, w' = w.drewN n := by
  have h0 := h.c0
  have h1 := h.c1
  have h2 := h.c2
  have h3 := (h.tk k hk).1
  clear h
  by_cases hb : bad < 0
  · have e1 : isM l s k bad = ((tkAt l k).is.toList == s.toList) := by simp [isM, hb, ByteArray.toList_eq]
    rw [e1]
    generalize (tkAt l k).is = q at *
    clear e1
    go_enter Tryz.func79, Tryz.ntmps79
    go_wp2
    go_quiet (fail)
    go_wp2
    go_ret
    exact ⟨rfl, _, rfl⟩
  · have e1 : isM l s k bad = false := by simp [isM, hb]
    rw [e1]
    have hd : decide (bad < 0) = false := by simpa using hb
    clear e1 h3
    go_enter Tryz.func79, Tryz.ntmps79
    go_wp2
    go_quiet (fail)
    go_wp2
    go_ret
    exact ⟨rfl, _, rfl⟩
end Go.Proofs.YtleenphlgbklmaaGreatDoor

namespace Go.Proofs.YtleenphlgbklmaaGreatDoor
open Go.RowKit

set_option maxHeartbeats 1000000 in
theorem take_any (w : World) (rb tb c : Nat) (l : List Tk) (k : Nat) (bad : Int) (s : ByteArray) (h : Rd w rb tb c l k bad) (hk : k < l.length) (hl : l.length ≤ 1000) :
    Calls Tryz.prog 76 #[.pointer (some ⟨rb, 0, none⟩), .string s] w fun e w' => e = .returned (.bool (isM l s k bad)) ∧ Kp (· = rb) w w' ∧ Rd w' rb tb c l (takeK l s k bad) bad := by
  cases hM : isM l s k bad
  · have eK : takeK l s k bad = k := by simp [takeK, hM]
    rw [eK]
    go_enter Tryz.func76, Tryz.ntmps76
    go_wp2_with fail
    refine (is_any w rb tb c l k bad s h hk hl).mono ?_
    rintro e w' ⟨rfl, n, rfl⟩
    rw [hM]
    go_wp2
    go_ret
    exact ⟨rfl, (Kp.refl _ _).drewN n, h.drewN n⟩
  · have eK : takeK l s k bad = k + 1 := by simp [takeK, hM]
    rw [eK]
    go_enter Tryz.func76, Tryz.ntmps76
    go_wp2_with fail
    refine (is_any w rb tb c l k bad s h hk hl).mono ?_
    rintro e w' ⟨rfl, n, rfl⟩
    rw [hM]
    have h2 := h.drewN n
    have h3 : Kp (· = rb) w (w.drewN n) := (Kp.refl _ _).drewN n
    generalize w.drewN n = w1 at *
    have c1 := h2.c1
    have c2 := h2.fz 1
    go_wp2
    go_ret
    exact ⟨rfl, h3.setCell _ _ (fun _ => rfl), h2.setK (k + 1)⟩

set_option maxHeartbeats 1000000 in
theorem need_any (w : World) (rb tb c : Nat) (l : List Tk) (k : Nat) (bad : Int) (s : ByteArray) (h : Rd w rb tb c l k bad) (hk : k < l.length) (hl : l.length ≤ 1000) :
    Calls Tryz.prog 41 #[.pointer (some ⟨rb, 0, none⟩), .string s] w fun e w' => e = .returned (.string (tkAt l k).s) ∧ Kp (· = rb) w w' ∧ Rd w' rb tb c l (takeK l s k bad) (needB l s k bad) := by
  have h0 := h.c0
  have h1 := h.c1
  have h2 := h.c2
  obtain ⟨t0, t1, t2⟩ := h.tk k hk
  have hrb := h.lt
  have htb : tb < w.heap.size := World.block_lt_of_cell? _ _ t0
  go_enter Tryz.func41, Tryz.ntmps41
  go_wp2
  go_region
  have hR := (h.alloc (.cells #[.string (tkAt l k).is, .string (tkAt l k).s, .int .i64 (tkAt l k).loc] 151)).drew
  have hK : Kp (· = rb) w (w.alloc (.cells #[.string (tkAt l k).is, .string (tkAt l k).s, .int .i64 (tkAt l k).loc] 151)).drew := ((Kp.refl _ _).alloc _).drew
  have hT : (w.alloc (.cells #[.string (tkAt l k).is, .string (tkAt l k).s, .int .i64 (tkAt l k).loc] 151)).drew.heap[w.heap.size]? = some (.cells #[.string (tkAt l k).is, .string (tkAt l k).s, .int .i64 (tkAt l k).loc] 151 (0, 0)) := heap_alloc_new _ _
  have hne : w.heap.size ≠ rb := by omega
  go_wp2_with fail
  generalize (w.alloc (.cells #[.string (tkAt l k).is, .string (tkAt l k).s, .int .i64 (tkAt l k).loc] 151)).drew = w1 at *
  clear h h0 h1 h2 t0 t1 t2
  generalize w.heap.size = tq at *
  refine (take_any w1 rb tb c l k bad s hR hk hl).mono ?_
  rintro e w2 ⟨rfl, g2, r2⟩
  have hT2 := g2.blk hT hne
  have u0 : w2.cell? ⟨tq, 1, none⟩ = some (.string (tkAt l k).s) := by simp [World.cell?, hT2]
  have u1 : w2.cell? ⟨tq, 2, none⟩ = some (.int .i64 (tkAt l k).loc) := by simp [World.cell?, hT2]
  have r2c := r2.c2
  have hKK := hK.trans g2
  clear hT hT2 hR hK g2
  by_cases hM : isM l s k bad = true
  · have eB : Hid (needB l s k bad = bad) := by simp [Hid, needB, hM]
    rw [hM]
    clear hM
    go_wp2
    go_ret
    exact ⟨rfl, hKK, by rw [eB.out]; exact r2⟩
  · have hM' : isM l s k bad = false := by simpa using hM
    have fz := r2.fz 2
    by_cases hb : bad < 0
    · have eB : Hid (needB l s k bad = (tkAt l k).loc) := by simp [Hid, needB, hM', hb]
      have r3 := r2.setB (tkAt l k).loc
      have k3 := hKK.setCell ⟨rb, 2, none⟩ (.int .i64 (tkAt l k).loc) (fun _ => rfl)
      have u0' : (w2.setCell ⟨rb, 2, none⟩ (.int .i64 (tkAt l k).loc)).cell? ⟨tq, 1, none⟩ = some (.string (tkAt l k).s) := by
        rw [World.cell?_setCell_other _ _ _ _ (fun e => hne (by injection e with e1; exact e1.symm))]; exact u0
      rw [hM']
      clear hM hM'
      go_wp2
      go_ret
      exact ⟨rfl, k3, by rw [eB.out]; exact r3⟩
    · have eB : Hid (needB l s k bad = bad) := by simp [Hid, needB, hb]
      have hd : decide (bad < 0) = false := by simpa using hb
      rw [hM']
      clear hM hM'
      go_wp2
      go_ret
      exact ⟨rfl, hKK, by rw [eB.out]; exact r2⟩
end Go.Proofs.YtleenphlgbklmaaGreatDoor
