import Derived.Test.YtleenphlgbklmaaGreatDoorVGrow
set_option linter.unusedVariables false
set_option linter.unusedSimpArgs false
namespace Go.Proofs.YtleenphlgbklmaaGreatDoor
open Go.RowKit

/-- an expression of the document's reader. -/
inductive X where
  | mk (op : ByteArray) (names : List ByteArray) (kids : List X) (loc : Nat)
def X.loc : X → Nat | .mk _ _ _ a => a
def X.op : X → ByteArray | .mk o _ _ _ => o

mutual
/-- the value v leads to that expression; fs: the blocks that it lies in. -/
def Rep (w : World) : X → Value → List Nat → Prop
  | .mk op names kids loc, v, fs => ∃ b nv lv ps fk, v = .pointer (some ⟨b, 0, none⟩) ∧ w.heap[b]? = some (.cells #[.string op, nv, lv, .int .i64 loc] 87 (0, 0)) ∧
      w.ownsRow 0 9 1 nv names.length (names.map Value.string) ∧ w.ownsRow 0 26 1 lv ps.length ps ∧ Reps w kids ps fk ∧ fs = b :: (nv.ownBlock.toList ++ lv.ownBlock.toList ++ fk)
def Reps (w : World) : List X → List Value → List Nat → Prop
  | [], ps, fs => ps = [] ∧ fs = []
  | x :: xs, ps, fs => ∃ p qs f1 f2, ps = p :: qs ∧ Rep w x p f1 ∧ Reps w xs qs f2 ∧ fs = f1 ++ f2
end

theorem ownsRow_base {w : World} {b b' : Nat} {e : TypeId} {z : Nat} {v : Value} {n : Nat} {xs : List Value} (h : w.ownsRow b e z v n xs) (hb : b' ≤ b) : w.ownsRow b' e z v n xs := by
  refine ⟨h.1, ?_⟩
  rcases h.2 with h | ⟨g, cap, cur, h1, h2, h3⟩
  · exact .inl h
  · exact .inr ⟨g, cap, cur, h1, by omega, h3⟩
theorem ownsRow_same {w w' : World} {b : Nat} {e : TypeId} {z : Nat} {v : Value} {n : Nat} {xs : List Value} (h : w.ownsRow b e z v n xs) (hs : ∀ k, v.ownBlock = some k → w'.heap[k]? = w.heap[k]?) : w'.ownsRow b e z v n xs := by
  refine ⟨h.1, ?_⟩
  rcases h.2 with h | ⟨g, cap, cur, h1, h2, h3, h4⟩
  · exact .inl h
  · subst h1
    exact .inr ⟨g, cap, cur, rfl, h2, (hs g rfl).trans h3, h4⟩

mutual
theorem Rep.same {w w' : World} : ∀ (x : X) {v : Value} {fs : List Nat}, Rep w x v fs → (∀ b, b ∈ fs → w'.heap[b]? = w.heap[b]?) → Rep w' x v fs
  | .mk op names kids loc, v, fs, h, hs => by
    simp only [Rep] at h ⊢
    obtain ⟨b, nv, lv, ps, fk, h1, h2, h3, h4, h5, h6⟩ := h
    subst h6
    refine ⟨b, nv, lv, ps, fk, h1, (hs b (by simp)).trans h2, ownsRow_same h3 (fun k e => hs k (by simp [e])), ownsRow_same h4 (fun k e => hs k (by simp [e])), Reps.same kids h5 (fun k e => hs k (by simp [e])), rfl⟩
theorem Reps.same {w w' : World} : ∀ (xs : List X) {ps : List Value} {fs : List Nat}, Reps w xs ps fs → (∀ b, b ∈ fs → w'.heap[b]? = w.heap[b]?) → Reps w' xs ps fs
  | [], ps, fs, h, _ => by simpa only [Reps] using h
  | x :: xs, ps, fs, h, hs => by
    simp only [Reps] at h ⊢
    obtain ⟨p, qs, f1, f2, h1, h2, h3, h4⟩ := h
    subst h4
    exact ⟨p, qs, f1, f2, h1, Rep.same x h2 (fun k e => hs k (by simp [e])), Reps.same xs h3 (fun k e => hs k (by simp [e])), rfl⟩
end
theorem Reps.snoc {w : World} : ∀ {xs : List X} {ps : List Value} {fs : List Nat} {x : X} {p : Value} {f : List Nat}, Reps w xs ps fs → Rep w x p f → Reps w (xs ++ [x]) (ps ++ [p]) (fs ++ f)
  | [], ps, fs, x, p, f, h, hx => by
    simp only [Reps] at h
    obtain ⟨rfl, rfl⟩ := h
    simp only [List.nil_append, Reps]
    exact ⟨p, [], f, [], rfl, hx, ⟨rfl, rfl⟩, by simp⟩
  | y :: xs, ps, fs, x, p, f, h, hx => by
    simp only [Reps] at h
    obtain ⟨q, qs, f1, f2, rfl, h2, h3, rfl⟩ := h
    simp only [List.cons_append, Reps]
    exact ⟨q, qs ++ [p], f1, f2 ++ f, rfl, h2, h3.snoc hx, by simp⟩
theorem Reps.len {w : World} : ∀ {xs : List X} {ps : List Value} {fs : List Nat}, Reps w xs ps fs → ps.length = xs.length
  | [], ps, fs, h => by simp only [Reps] at h; rw [h.1]; rfl
  | x :: xs, ps, fs, h => by
    simp only [Reps] at h
    obtain ⟨q, qs, f1, f2, rfl, h2, h3, rfl⟩ := h
    simp [h3.len]

/-- an expression in the making: at block xb, all of it at blocks from B on. -/
structure Bld (w : World) (B xb : Nat) (op : ByteArray) (names : List ByteArray) (kids : List X) (loc : Nat) (nv lv : Value) (ps : List Value) (fk : List Nat) : Prop where
  blk : w.heap[xb]? = some (.cells #[.string op, nv, lv, .int .i64 loc] 87 (0, 0))
  nm : w.ownsRow B 9 1 nv names.length (names.map Value.string)
  kd : w.ownsRow B 26 1 lv ps.length ps
  rp : Reps w kids ps fk
  out : ∀ b, b ∈ fk → B ≤ b ∧ b ≠ xb ∧ nv.ownBlock ≠ some b ∧ lv.ownBlock ≠ some b
  low : B ≤ xb

section
variable {w w' : World} {B xb : Nat} {op : ByteArray} {names : List ByteArray} {kids : List X} {loc : Nat} {nv lv : Value} {ps : List Value} {fk : List Nat}

theorem Bld.rep (h : Bld w B xb op names kids loc nv lv ps fk) : Rep w (.mk op names kids loc) (.pointer (some ⟨xb, 0, none⟩)) (xb :: (nv.ownBlock.toList ++ lv.ownBlock.toList ++ fk)) := by
  simp only [Rep]
  exact ⟨xb, nv, lv, ps, fk, rfl, h.blk, ownsRow_base h.nm (Nat.zero_le _), ownsRow_base h.kd (Nat.zero_le _), h.rp, rfl⟩
theorem Bld.fs_low (h : Bld w B xb op names kids loc nv lv ps fk) : ∀ b, b ∈ (xb :: (nv.ownBlock.toList ++ lv.ownBlock.toList ++ fk)) → B ≤ b := by
  intro b hb
  simp only [List.mem_cons, List.mem_append, Option.mem_toList] at hb
  rcases hb with rfl | (hb | hb) | hb
  · exact h.low
  · exact (h.nm.lt b hb).1
  · exact (h.kd.lt b hb).1
  · exact (h.out b hb).1
/-- nothing of it has turned. -/
theorem Bld.same (h : Bld w B xb op names kids loc nv lv ps fk) (hs : ∀ b, b < w.heap.size → B ≤ b → w'.heap[b]? = w.heap[b]?) (hf : ∀ b, b ∈ fk → b < w.heap.size) : Bld w' B xb op names kids loc nv lv ps fk :=
  ⟨(hs xb (lt_of_block h.blk) h.low).trans h.blk, ownsRow_same h.nm (fun k e => hs k (h.nm.lt k e).2 (h.nm.lt k e).1), ownsRow_same h.kd (fun k e => hs k (h.kd.lt k e).2 (h.kd.lt k e).1),
    Reps.same kids h.rp (fun b hb => hs b (hf b hb) (h.out b hb).1), h.out, h.low⟩
end

mutual
theorem Rep.lt {w : World} : ∀ (x : X) {v : Value} {fs : List Nat}, Rep w x v fs → ∀ b, b ∈ fs → b < w.heap.size
  | .mk op names kids loc, v, fs, h, b, hb => by
    simp only [Rep] at h
    obtain ⟨b0, nv, lv, ps, fk, h1, h2, h3, h4, h5, h6⟩ := h
    subst h6
    simp only [List.mem_cons, List.mem_append, Option.mem_toList] at hb
    rcases hb with rfl | (hb | hb) | hb
    · exact lt_of_block h2
    · exact (h3.lt b hb).2
    · exact (h4.lt b hb).2
    · exact Reps.lt kids h5 b hb
theorem Reps.lt {w : World} : ∀ (xs : List X) {ps : List Value} {fs : List Nat}, Reps w xs ps fs → ∀ b, b ∈ fs → b < w.heap.size
  | [], ps, fs, h, b, hb => by simp only [Reps] at h; rw [h.2] at hb; cases hb
  | x :: xs, ps, fs, h, b, hb => by
    simp only [Reps] at h
    obtain ⟨p, qs, f1, f2, h1, h2, h3, h4⟩ := h
    subst h4
    simp only [List.mem_append] at hb
    rcases hb with hb | hb
    · exact Rep.lt x h2 b hb
    · exact Reps.lt xs h3 b hb
end

section
variable {w w' : World} {B xb rb : Nat} {op : ByteArray} {names : List ByteArray} {kids : List X} {loc : Nat} {nv lv : Value} {ps : List Value} {fk : List Nat}

theorem Bld.kp (h : Bld w B xb op names kids loc nv lv ps fk) (g : Kp (· = rb) w w') (hr : rb < B) : Bld w' B xb op names kids loc nv lv ps fk :=
  h.same (fun b hb hB => g.block b hb (by show ¬ b = rb; omega)) (Reps.lt kids h.rp)
theorem Bld.c0 (h : Bld w B xb op names kids loc nv lv ps fk) : w.cell? ⟨xb, 0, none⟩ = some (.string op) := by simp [World.cell?, h.blk]
theorem Bld.c1 (h : Bld w B xb op names kids loc nv lv ps fk) : w.cell? ⟨xb, 1, none⟩ = some nv := by simp [World.cell?, h.blk]
theorem Bld.c2 (h : Bld w B xb op names kids loc nv lv ps fk) : w.cell? ⟨xb, 2, none⟩ = some lv := by simp [World.cell?, h.blk]
theorem Bld.c3 (h : Bld w B xb op names kids loc nv lv ps fk) : w.cell? ⟨xb, 3, none⟩ = some (.int .i64 loc) := by simp [World.cell?, h.blk]
theorem Bld.fz (h : Bld w B xb op names kids loc nv lv ps fk) (i : Nat) : w.frozen? ⟨xb, i, none⟩ = false := by simp [World.frozen?, h.blk]

/-- another type than the row's: no block of it. -/
theorem row_ne {w : World} {base : Nat} {e e' : TypeId} {z : Nat} {v : Value} {n : Nat} {xs : List Value} (h : w.ownsRow base e z v n xs) {pb : Nat} {cs : Array Value} (hp : w.heap[pb]? = some (.cells cs e' (0, 0))) (he : e ≠ e') : v.ownBlock ≠ some pb := by
  rcases h.2 with ⟨rfl, _⟩ | ⟨g, cap, cur, rfl, _, hg, _⟩
  · simp [Value.ownBlock]
  · simp only [Value.ownBlock]
    intro q
    obtain rfl := Option.some.inj q
    rw [hg] at hp
    simp at hp
    exact he hp.2
theorem rows_ne {w : World} {base base' : Nat} {e e' : TypeId} {z z' : Nat} {v v' : Value} {n n' : Nat} {xs xs' : List Value} (h : w.ownsRow base e z v n xs) (h' : w.ownsRow base' e' z' v' n' xs') (he : e ≠ e') : ∀ k, v.ownBlock = some k → v'.ownBlock ≠ some k := by
  intro k hk
  rcases h.2 with ⟨rfl, _⟩ | ⟨g, cap, cur, rfl, _, hg, _⟩
  · simp [Value.ownBlock] at hk
  · simp only [Value.ownBlock] at hk
    obtain rfl := Option.some.inj hk
    exact row_ne h' hg (Ne.symm he)

/-- one name more: the append's world w1, then the store. -/
theorem Bld.name (h : Bld w B xb op names kids loc nv lv ps fk) {o : Obj} {w1 : World} {g cap : Nat} {nm : ByteArray}
    (ho : w1.ownsRow B 9 1 (.slice (some ⟨g, 0, none⟩) (names.length + 1) cap) (names.length + 1) (names.map Value.string ++ [.string nm])) (hg : (w.alloc o).grownBy w1 nv.ownBlock) (hf : some g = nv.ownBlock ∨ w.heap.size < g) :
    Bld (w1.setCell ⟨xb, 1, none⟩ (.slice (some ⟨g, 0, none⟩) (names.length + 1) cap)) B xb op (names ++ [nm]) kids loc (.slice (some ⟨g, 0, none⟩) (names.length + 1) cap) lv ps fk := by
  have hlt : ∀ b, b < w.heap.size → some b ≠ nv.ownBlock → w1.heap[b]? = w.heap[b]? := fun b hb hne => by
    rw [hg.block b (by simp; omega) hne, Below.heap_alloc _ _ _ hb]
  have hxl := lt_of_block h.blk
  have hn := row_ne h.nm h.blk (by decide)
  have hk := row_ne h.kd h.blk (by decide)
  have hx1 : w1.heap[xb]? = some (.cells #[.string op, nv, lv, .int .i64 loc] 87 (0, 0)) := (hlt xb hxl (Ne.symm hn)).trans h.blk
  have hgx : g ≠ xb := by
    rcases hf with e | e
    · intro q; subst q; exact hn e.symm
    · omega
  refine ⟨?_, ?_, ?_, ?_, ?_, h.low⟩
  · simp [World.setCell, hx1, Array.getElem?_modify]
  · have := ownsRow_setCell_other ho (a := ⟨xb, 1, none⟩) (by simp [Value.ownBlock, hgx]) (.slice (some ⟨g, 0, none⟩) (names.length + 1) cap)
    simpa using this
  · refine ownsRow_setCell_other (ownsRow_same h.kd fun k e => hlt k (h.kd.lt k e).2 (fun q => rows_ne h.kd h.nm (by decide) k e q.symm)) hk _
  · refine Reps.same kids h.rp (fun b hb => ?_)
    rw [Below.heap_setCell _ _ _ _ (h.out b hb).2.1]
    exact hlt b (Reps.lt kids h.rp b hb) (Ne.symm (h.out b hb).2.2.1)
  · intro b hb
    have hbl := Reps.lt kids h.rp b hb
    refine ⟨(h.out b hb).1, (h.out b hb).2.1, ?_, (h.out b hb).2.2.2⟩
    simp only [Value.ownBlock]
    intro q
    obtain rfl := Option.some.inj q
    rcases hf with e | e
    · exact (h.out g hb).2.2.1 e.symm
    · omega

/-- one part more. -/
theorem Bld.kid (h : Bld w B xb op names kids loc nv lv ps fk) {o : Obj} {w1 : World} {g cap : Nat} {x : X} {p : Value} {f : List Nat} (hx : Rep w x p f) (hlow : ∀ b, b ∈ f → B ≤ b ∧ b ≠ xb ∧ nv.ownBlock ≠ some b ∧ lv.ownBlock ≠ some b)
    (ho : w1.ownsRow B 26 1 (.slice (some ⟨g, 0, none⟩) (ps.length + 1) cap) (ps.length + 1) (ps ++ [p])) (hg : (w.alloc o).grownBy w1 lv.ownBlock) (hf : some g = lv.ownBlock ∨ w.heap.size < g) :
    Bld (w1.setCell ⟨xb, 2, none⟩ (.slice (some ⟨g, 0, none⟩) (ps.length + 1) cap)) B xb op names (kids ++ [x]) loc nv (.slice (some ⟨g, 0, none⟩) (ps.length + 1) cap) (ps ++ [p]) (fk ++ f) := by
  have hlt : ∀ b, b < w.heap.size → some b ≠ lv.ownBlock → w1.heap[b]? = w.heap[b]? := fun b hb hne => by
    rw [hg.block b (by simp; omega) hne, Below.heap_alloc _ _ _ hb]
  have hxl := lt_of_block h.blk
  have hn := row_ne h.nm h.blk (by decide)
  have hk := row_ne h.kd h.blk (by decide)
  have hx1 : w1.heap[xb]? = some (.cells #[.string op, nv, lv, .int .i64 loc] 87 (0, 0)) := (hlt xb hxl (Ne.symm hk)).trans h.blk
  have hgx : g ≠ xb := by
    rcases hf with e | e
    · intro q; subst q; exact hk e.symm
    · omega
  refine ⟨?_, ?_, ?_, ?_, ?_, h.low⟩
  · simp [World.setCell, hx1, Array.getElem?_modify]
  · refine ownsRow_setCell_other (ownsRow_same h.nm fun k e => hlt k (h.nm.lt k e).2 (fun q => rows_ne h.nm h.kd (by decide) k e q.symm)) hn _
  · have := ownsRow_setCell_other ho (a := ⟨xb, 2, none⟩) (by simp [Value.ownBlock, hgx]) (.slice (some ⟨g, 0, none⟩) (ps.length + 1) cap)
    simpa using this
  · refine (Reps.same kids h.rp (fun b hb => ?_)).snoc (Rep.same x hx (fun b hb => ?_))
    · rw [Below.heap_setCell _ _ _ _ (h.out b hb).2.1]
      exact hlt b (Reps.lt kids h.rp b hb) (Ne.symm (h.out b hb).2.2.2)
    · rw [Below.heap_setCell _ _ _ _ (hlow b hb).2.1]
      exact hlt b (Rep.lt x hx b hb) (Ne.symm (hlow b hb).2.2.2)
  · intro b hb
    simp only [List.mem_append] at hb
    have hbl : b < w.heap.size := by
      rcases hb with hb | hb
      · exact Reps.lt kids h.rp b hb
      · exact Rep.lt x hx b hb
    have hall : B ≤ b ∧ b ≠ xb ∧ nv.ownBlock ≠ some b ∧ lv.ownBlock ≠ some b := by
      rcases hb with hb | hb
      · exact h.out b hb
      · exact hlow b hb
    refine ⟨hall.1, hall.2.1, hall.2.2.1, ?_⟩
    simp only [Value.ownBlock]
    intro q
    obtain rfl := Option.some.inj q
    rcases hf with e | e
    · exact hall.2.2.2 e.symm
    · omega
end
end Go.Proofs.YtleenphlgbklmaaGreatDoor

namespace Go.Proofs.YtleenphlgbklmaaGreatDoor

mutual
def expM (l : List Tk) : Nat → Nat → Int → Option (X × Nat × Int)
  | 0, _, _ => none
  | n + 1, k, bad =>
    if 0 ≤ bad then some (.mk { data := #[] } [] [] (tkAt l k).loc, k, bad)
    else if isM l { data := #[102, 117, 110] } k bad then
      (expM l n (takeK l { data := #[45, 62] } (takeK l { data := #[110, 97, 109, 101] } (k + 1) bad) (needB l { data := #[110, 97, 109, 101] } (k + 1) bad)) (needB l { data := #[45, 62] } (takeK l { data := #[110, 97, 109, 101] } (k + 1) bad) (needB l { data := #[110, 97, 109, 101] } (k + 1) bad))).bind fun r =>
        some (.mk { data := #[102, 117, 110] } [(tkAt l (k + 1)).s] [r.1] (tkAt l k).loc, r.2.1, r.2.2)
    else if isM l { data := #[105, 102] } k bad then
      (expM l n (k + 1) bad).bind fun r =>
      (expM l n (takeK l { data := #[116, 104, 101, 110] } r.2.1 r.2.2) (needB l { data := #[116, 104, 101, 110] } r.2.1 r.2.2)).bind fun s =>
      (expM l n (takeK l { data := #[101, 108, 115, 101] } s.2.1 s.2.2) (needB l { data := #[101, 108, 115, 101] } s.2.1 s.2.2)).bind fun t =>
        some (.mk { data := #[105, 102] } [] [r.1, s.1, t.1] (tkAt l k).loc, t.2.1, t.2.2)
    else if isM l { data := #[108, 101, 116] } k bad then
      if isM l { data := #[114, 101, 99] } (k + 1) bad then
        (boundM l n [] [] (k + 2) bad).bind fun r =>
        (andM l n r.1 r.2.1 r.2.2.1 r.2.2.2).bind fun s =>
        (expM l n (takeK l { data := #[105, 110] } s.2.2.1 s.2.2.2) (needB l { data := #[105, 110] } s.2.2.1 s.2.2.2)).bind fun t =>
          some (.mk { data := #[114, 101, 99] } s.1 (s.2.1 ++ [t.1]) (tkAt l k).loc, t.2.1, t.2.2)
      else
        (boundM l n [] [] (k + 1) bad).bind fun s =>
        (expM l n (takeK l { data := #[105, 110] } s.2.2.1 s.2.2.2) (needB l { data := #[105, 110] } s.2.2.1 s.2.2.2)).bind fun t =>
          some (.mk { data := #[108, 101, 116] } s.1 (s.2.1 ++ [t.1]) (tkAt l k).loc, t.2.1, t.2.2)
    else
      (atomM l n k bad).bind fun r => appM l n r.1 r.2.1 r.2.2
def boundM (l : List Tk) : Nat → List ByteArray → List X → Nat → Int → Option (List ByteArray × List X × Nat × Int)
  | 0, _, _, _, _ => none
  | n + 1, names, kids, k, bad =>
    let b2 := dupB names (tkAt l k).s (tkAt l k).loc (needB l { data := #[110, 97, 109, 101] } k bad)
    (expM l n (takeK l { data := #[61] } (takeK l { data := #[110, 97, 109, 101] } k bad) b2) (needB l { data := #[61] } (takeK l { data := #[110, 97, 109, 101] } k bad) b2)).bind fun r =>
      some (names ++ [(tkAt l k).s], kids ++ [r.1], r.2.1, r.2.2)
def andM (l : List Tk) : Nat → List ByteArray → List X → Nat → Int → Option (List ByteArray × List X × Nat × Int)
  | 0, _, _, _, _ => none
  | n + 1, names, kids, k, bad =>
    if isM l { data := #[97, 110, 100] } k bad then
      (boundM l n names kids (k + 1) bad).bind fun r => andM l n r.1 r.2.1 r.2.2.1 r.2.2.2
    else some (names, kids, k, bad)
def atomM (l : List Tk) : Nat → Nat → Int → Option (X × Nat × Int)
  | 0, _, _ => none
  | n + 1, k, bad =>
    if isM l { data := #[110, 97, 109, 101] } k bad || isM l { data := #[110, 117, 109] } k bad then some (.mk (tkAt l k).is [(tkAt l k).s] [] (tkAt l k).loc, k + 1, bad)
    else
      (expM l n (takeK l { data := #[40] } k bad) (needB l { data := #[40] } k bad)).bind fun r =>
      if isM l { data := #[44] } r.2.1 r.2.2 then
        (expM l n (r.2.1 + 1) r.2.2).bind fun s =>
          some (.mk { data := #[112, 97, 105, 114] } [] [r.1, s.1] (tkAt l k).loc, takeK l { data := #[41] } s.2.1 s.2.2, needB l { data := #[41] } s.2.1 s.2.2)
      else some (r.1, takeK l { data := #[41] } r.2.1 r.2.2, needB l { data := #[41] } r.2.1 r.2.2)
def appM (l : List Tk) : Nat → X → Nat → Int → Option (X × Nat × Int)
  | 0, _, _, _ => none
  | n + 1, x, k, bad =>
    if isM l { data := #[110, 97, 109, 101] } k bad || isM l { data := #[110, 117, 109] } k bad || isM l { data := #[40] } k bad then
      (atomM l n k bad).bind fun r => appM l n (.mk { data := #[97, 112, 112] } [] [x, r.1] x.loc) r.2.1 r.2.2
    else some (x, k, bad)
end

/-- no token but the last is an end, or none. -/
def Good (l : List Tk) : Prop := ∀ k, k < l.length → ∀ s : ByteArray, s.data.toList ≠ ({ data := #[101, 110, 100] } : ByteArray).data.toList → s.data.toList ≠ ({ data := #[110, 111, 110, 101] } : ByteArray).data.toList → ((tkAt l k).is.data.toList == s.data.toList) = true → k + 1 < l.length

theorem isM_lt {l : List Tk} {s : ByteArray} {k : Nat} {bad : Int} (hg : Good l) (hk : k < l.length) (h : isM l s k bad = true) (h1 : s.data.toList ≠ ({ data := #[101, 110, 100] } : ByteArray).data.toList) (h2 : s.data.toList ≠ ({ data := #[110, 111, 110, 101] } : ByteArray).data.toList) : k + 1 < l.length := by
  simp only [isM, Bool.and_eq_true] at h
  exact hg k hk s h1 h2 h.2
theorem takeK_lt {l : List Tk} {s : ByteArray} {k : Nat} {bad : Int} (hg : Good l) (hk : k < l.length) (h1 : s.data.toList ≠ ({ data := #[101, 110, 100] } : ByteArray).data.toList) (h2 : s.data.toList ≠ ({ data := #[110, 111, 110, 101] } : ByteArray).data.toList) : takeK l s k bad < l.length := by
  unfold takeK
  split
  · exact isM_lt hg hk (by assumption) h1 h2
  · exact hk
end Go.Proofs.YtleenphlgbklmaaGreatDoor

namespace Go.Proofs.YtleenphlgbklmaaGreatDoor

theorem clsK_bd (s : ByteArray) (i : Nat) (h : i ≤ s.size) : i ≤ clsK s i ∧ clsK s i ≤ s.size := by
  unfold clsK
  split
  · split
    · exact ⟨run_ge _ _ _, run_le _ _ _ h⟩
    · split
      · exact ⟨run_ge _ _ _, run_le _ _ _ h⟩
      · split
        · rename_i hh; omega
        · split <;> omega
  · omega
theorem toks_len (s : ByteArray) (kws : List ByteArray) : ∀ n i, (toksF s kws n i).length ≤ n
  | 0, i => by simp [toksF]
  | n + 1, i => by
    rw [toksF]
    split
    · simp
    · simp only [List.length_cons]
      have := toks_len s kws n (tok1 s kws (run blI s i)).2
      omega
theorem tkAt_zero (t : Tk) (l : List Tk) : tkAt (t :: l) 0 = t := by simp [tkAt]
theorem tkAt_succ (t : Tk) (l : List Tk) (k : Nat) : tkAt (t :: l) (k + 1) = tkAt l k := by simp [tkAt]
theorem toks_last (s : ByteArray) (kws : List ByteArray) : ∀ n i, i ≤ s.size → s.size + 1 ≤ i + n → ∀ k, k < (toksF s kws n i).length → lastT (tkAt (toksF s kws n i) k) = false → k + 1 < (toksF s kws n i).length
  | 0, i, h1, h2, k, hk, hl => by omega
  | n + 1, i, h1, h2, k, hk, hl => by
    rw [toksF] at hk hl ⊢
    split at hk
    · rename_i c
      rw [if_pos c] at hl
      simp only [List.length_cons, List.length_nil] at hk
      have : k = 0 := by omega
      subst this
      rw [tkAt_zero, c] at hl
      cases hl
    · rename_i c
      rw [if_neg c] at hl ⊢
      have c' : lastT (tok1 s kws (run blI s i)).1 = false := by simpa using c
      have g1 := tok1_gt s kws _ c'
      have g2 := run_ge blI s i
      have g3 := run_le blI s i h1
      have g4 := (clsK_bd s _ g3).2
      have e2 : (tok1 s kws (run blI s i)).2 = clsK s (run blI s i) := rfl
      have ihn := toks_last s kws n (tok1 s kws (run blI s i)).2 (by rw [e2]; exact g4) (by rw [e2]; omega)
      cases k with
      | zero =>
        have : 0 < (toksF s kws n (tok1 s kws (run blI s i)).2).length := by
          cases n with
          | zero => omega
          | succ n => rw [toksF]; split <;> simp
        simp only [List.length_cons]
        omega
      | succ k =>
        simp only [List.length_cons] at hk ⊢
        rw [tkAt_succ] at hl
        have := ihn k (by omega) hl
        omega
theorem toks_good (s : ByteArray) (kws : List ByteArray) : Good (toksF s kws (s.size + 1) 0) := by
  intro k hk w h1 h2 he
  refine toks_last s kws (s.size + 1) 0 (by omega) (by omega) k hk ?_
  simp only [beq_iff_eq] at he
  simp only [lastT, he, Bool.or_eq_false_iff, beq_eq_false_iff_ne]
  exact ⟨h2, h1⟩
theorem toks_pos (s : ByteArray) (kws : List ByteArray) : 0 < (toksF s kws (s.size + 1) 0).length := by
  rw [toksF]; split <;> simp
theorem toks_size (s : ByteArray) (kws : List ByteArray) : ∀ n i k, (tkAt (toksF s kws n i) k).s.size ≤ s.size
  | 0, i, k => by
    have : tkAt (toksF s kws 0 i) k = Tk.no := by simp [tkAt, toksF]
    rw [this]
    exact Nat.zero_le _
  | n + 1, i, k => by
    have ht : (tok1 s kws (run blI s i)).1.s.size ≤ s.size := by
      show (s.extract _ _).size ≤ s.size
      rw [ByteArray.size_extract]
      omega
    rw [toksF]
    split
    · cases k with
      | zero => rw [tkAt_zero]; exact ht
      | succ k => rw [tkAt_succ]; exact Nat.zero_le _
    · cases k with
      | zero => rw [tkAt_zero]; exact ht
      | succ k => rw [tkAt_succ]; exact toks_size s kws n _ k
end Go.Proofs.YtleenphlgbklmaaGreatDoor

namespace Go.Proofs.YtleenphlgbklmaaGreatDoor
open Go.RowKit

/-- a type of the document's reader. -/
inductive Ty where
  | mk (kind : ByteArray) (num : Nat) (kids : List Ty)

mutual
/-- the value leads to that type. -/
def TRep (w : World) : Ty → Value → Prop
  | .mk kd n kids, p => ∃ b lv ps, p = .pointer (some ⟨b, 0, none⟩) ∧ w.heap[b]? = some (.cells #[.string kd, .int .i64 n, lv] 104 (0, 0)) ∧ w.ownsRow 0 33 1 lv ps.length ps ∧ TReps w kids ps
def TReps (w : World) : List Ty → List Value → Prop
  | [], ps => ps = []
  | t :: ts, ps => ∃ p qs, ps = p :: qs ∧ TRep w t p ∧ TReps w ts qs
end

theorem TRep.ptr {w : World} : ∀ {t : Ty} {p : Value}, TRep w t p → ∃ b, p = .pointer (some ⟨b, 0, none⟩)
  | .mk _ _ _, _, h => by
    simp only [TRep] at h
    obtain ⟨b, _, _, h1, _⟩ := h
    exact ⟨b, h1⟩

/-- every block of types is as it was. -/
def TKeep (w w' : World) : Prop := ∀ (k : Nat) (cs : Array Value) (e : TypeId) (f : Nat × Nat), e = 104 ∨ e = 33 → w.heap[k]? = some (.cells cs e f) → w'.heap[k]? = some (.cells cs e f)
theorem TKeep.refl (w : World) : TKeep w w := fun _ _ _ _ _ h => h
theorem TKeep.trans {a b c : World} (h : TKeep a b) (k : TKeep b c) : TKeep a c := fun q cs e f he hq => k q cs e f he (h q cs e f he hq)
theorem TKeep.kp {S : Nat → Prop} {w w' : World} (h : Kp S w w') (hS : ∀ k, S k → ∀ cs e f, w.heap[k]? = some (.cells cs e f) → e ≠ 104 ∧ e ≠ 33) : TKeep w w' := fun k cs e f he hk =>
  h.blk hk (fun s => by have := hS k s cs e f hk; rcases he with rfl | rfl; exact this.1 rfl; exact this.2 rfl)
theorem TKeep.below {w w' : World} (h : Below w.heap.size w w') : TKeep w w' := fun k cs e f _ hk => (h.block k (lt_of_block hk)).trans hk
theorem TKeep.alloc (w : World) (o : Obj) : TKeep w (w.alloc o) := fun k cs e f _ hk => (Below.heap_alloc w o k (lt_of_block hk)).trans hk

theorem ownsRow_tkeep {w w' : World} {b : Nat} {v : Value} {n : Nat} {xs : List Value} (h : w.ownsRow b 33 1 v n xs) (hk : TKeep w w') : w'.ownsRow b 33 1 v n xs := by
  refine ⟨h.1, ?_⟩
  rcases h.2 with h | ⟨g, cap, cur, h1, h2, h3, h4⟩
  · exact .inl h
  · exact .inr ⟨g, cap, cur, h1, h2, hk g cur 33 (0, 0) (.inr rfl) h3, h4⟩

mutual
theorem TRep.keep {w w' : World} (hk : TKeep w w') : ∀ (t : Ty) {p : Value}, TRep w t p → TRep w' t p
  | .mk kd n kids, p, h => by
    simp only [TRep] at h ⊢
    obtain ⟨b, lv, ps, h1, h2, h3, h4⟩ := h
    exact ⟨b, lv, ps, h1, hk b _ 104 (0, 0) (.inl rfl) h2, ownsRow_tkeep h3 hk, TReps.keep hk kids h4⟩
theorem TReps.keep {w w' : World} (hk : TKeep w w') : ∀ (ts : List Ty) {ps : List Value}, TReps w ts ps → TReps w' ts ps
  | [], ps, h => by simpa only [TReps] using h
  | t :: ts, ps, h => by
    simp only [TReps] at h ⊢
    obtain ⟨p, qs, h1, h2, h3⟩ := h
    exact ⟨p, qs, h1, TRep.keep hk t h2, TReps.keep hk ts h3⟩
end
theorem TReps.len {w : World} : ∀ {ts : List Ty} {ps : List Value}, TReps w ts ps → ps.length = ts.length
  | [], ps, h => by simp only [TReps] at h; rw [h]; rfl
  | t :: ts, ps, h => by
    simp only [TReps] at h
    obtain ⟨p, qs, rfl, h2, h3⟩ := h
    simp [h3.len]
theorem TReps.get {w : World} : ∀ {ts : List Ty} {ps : List Value}, TReps w ts ps → ∀ (i : Nat) (t : Ty), ts[i]? = some t → ∃ p, ps[i]? = some p ∧ TRep w t p
  | [], ps, h, i, t, hi => by simp at hi
  | t0 :: ts, ps, h, i, t, hi => by
    simp only [TReps] at h
    obtain ⟨p, qs, rfl, h2, h3⟩ := h
    cases i with
    | zero => simp at hi; subst hi; exact ⟨p, rfl, h2⟩
    | succ i => simp at hi; simpa using h3.get i t hi

end Go.Proofs.YtleenphlgbklmaaGreatDoor

namespace Go.Proofs.YtleenphlgbklmaaGreatDoor
open Go.RowKit

def sameS (m n : ByteArray) : Bool := m.data.toList == n.data.toList
/-- a name among the names: its variable; the names behind it. -/
def nameM (names : List ByteArray) (nm : ByteArray) : Ty × List ByteArray :=
  match names.findIdx? (fun m => sameS m nm) with
  | some j => (.mk { data := #[] } j [], names)
  | none => (.mk { data := #[] } names.length [], names ++ [nm])

mutual
def arrowM (l : List Tk) : Nat → List ByteArray → Nat → Int → Option (Ty × List ByteArray × Nat × Int)
  | 0, _, _, _ => none
  | n + 1, names, k, bad =>
    (oneM l n names k bad).bind fun r =>
      if isM l { data := #[45, 62] } r.2.2.1 r.2.2.2 then
        (arrowM l n r.2.1 (r.2.2.1 + 1) r.2.2.2).bind fun s => some (.mk { data := #[102, 117, 110] } 0 [r.1, s.1], s.2.1, s.2.2.1, s.2.2.2)
      else some (r.1, r.2.1, r.2.2.1, r.2.2.2)
def oneM (l : List Tk) : Nat → List ByteArray → Nat → Int → Option (Ty × List ByteArray × Nat × Int)
  | 0, _, _, _ => none
  | n + 1, names, k, bad =>
    if isM l { data := #[105, 110, 116] } k bad then some (.mk { data := #[105, 110, 116] } 0 [], names, k + 1, bad)
    else if isM l { data := #[98, 111, 111, 108] } k bad then some (.mk { data := #[98, 111, 111, 108] } 0 [], names, k + 1, bad)
    else if isM l { data := #[91] } k bad then
      (arrowM l n names (k + 1) bad).bind fun r =>
        some (.mk { data := #[108, 105, 115, 116] } 0 [r.1], r.2.1, takeK l { data := #[93] } r.2.2.1 r.2.2.2, needB l { data := #[93] } r.2.2.1 r.2.2.2)
    else if isM l { data := #[40] } k bad then
      (arrowM l n names (k + 1) bad).bind fun r =>
        if isM l { data := #[44] } r.2.2.1 r.2.2.2 then
          (arrowM l n r.2.1 (r.2.2.1 + 1) r.2.2.2).bind fun s =>
            some (.mk { data := #[112, 97, 105, 114] } 0 [r.1, s.1], s.2.1, takeK l { data := #[41] } s.2.2.1 s.2.2.2, needB l { data := #[41] } s.2.2.1 s.2.2.2)
        else some (r.1, r.2.1, takeK l { data := #[41] } r.2.2.1 r.2.2.2, needB l { data := #[41] } r.2.2.1 r.2.2.2)
    else some ((nameM names (tkAt l k).s).1, (nameM names (tkAt l k).s).2, takeK l { data := #[110, 97, 109, 101] } k bad, needB l { data := #[110, 97, 109, 101] } k bad)
end

theorem sameS_iff (m n : ByteArray) : sameS m n = true ↔ m = n := by
  unfold sameS
  rw [beq_iff_eq]
  constructor
  · intro h
    cases m; cases n
    simp at h
    rw [h]
  · intro h; rw [h]
/-- names: each once, each some token's text. -/
structure NmOk (l : List Tk) (names : List ByteArray) : Prop where
  nd : names.Nodup
  of : ∀ m, m ∈ names → ∃ k, k < l.length ∧ (tkAt l k).s = m
theorem nodup_len {α : Type} [DecidableEq α] : ∀ (xs ys : List α), xs.Nodup → (∀ x, x ∈ xs → x ∈ ys) → xs.length ≤ ys.length
  | [], ys, _, _ => Nat.zero_le _
  | x :: xs, ys, hn, hs => by
    have hx := hs x (by simp)
    have h1 := nodup_len xs (ys.erase x) (List.nodup_cons.1 hn).2 (fun y hy => by
      have hne : y ≠ x := fun e => (List.nodup_cons.1 hn).1 (e ▸ hy)
      exact (List.mem_erase_of_ne hne).2 (hs y (by simp [hy])))
    rw [List.length_erase_of_mem hx] at h1
    have := List.length_pos_of_mem hx
    simp
    omega
theorem NmOk.len {l : List Tk} {names : List ByteArray} (h : NmOk l names) : names.length ≤ l.length := by
  have := nodup_len names (l.map Tk.s) h.nd (fun m hm => by
    obtain ⟨k, hk, e⟩ := h.of m hm
    simp only [tkAt, List.getD_eq_getElem?_getD, List.getElem?_eq_getElem hk, Option.getD_some] at e
    exact List.mem_map.2 ⟨l[k], List.getElem_mem hk, e⟩)
  simpa using this
theorem NmOk.nil (l : List Tk) : NmOk l [] := ⟨List.nodup_nil, fun _ h => nomatch h⟩
theorem NmOk.name {l : List Tk} {names : List ByteArray} (h : NmOk l names) {k : Nat} (hk : k < l.length) : NmOk l (nameM names (tkAt l k).s).2 := by
  unfold nameM
  split
  · exact h
  · rename_i e
    rw [List.findIdx?_eq_none_iff] at e
    refine ⟨?_, ?_⟩
    · refine List.nodup_append.2 ⟨h.nd, by simp, ?_⟩
      intro a ha b hb
      simp at hb
      subst hb
      intro q
      have := e a ha
      rw [(sameS_iff a _).2 q] at this
      simp at this
    · intro m hm
      simp at hm
      rcases hm with hm | rfl
      · exact h.of m hm
      · exact ⟨k, hk, rfl⟩

theorem tread_ok (l : List Tk) (hG : Good l) : ∀ n, (∀ names k bad t names' k' bad', arrowM l n names k bad = some (t, names', k', bad') → k < l.length → NmOk l names → k' < l.length ∧ NmOk l names') ∧
    (∀ names k bad t names' k' bad', oneM l n names k bad = some (t, names', k', bad') → k < l.length → NmOk l names → k' < l.length ∧ NmOk l names') := by
  intro n
  induction n with
  | zero => exact ⟨fun _ _ _ _ _ _ _ h => by simp [arrowM] at h, fun _ _ _ _ _ _ _ h => by simp [oneM] at h⟩
  | succ n ih =>
    refine ⟨?_, ?_⟩
    · intro names k bad t names' k' bad' h hk ho
      simp only [arrowM] at h
      obtain ⟨⟨x, n1, k1, b1⟩, h1, h2⟩ := Option.bind_eq_some_iff.1 h
      obtain ⟨hk1, ho1⟩ := ih.2 _ _ _ _ _ _ _ h1 hk ho
      simp only at h2
      split at h2
      · rename_i hM
        obtain ⟨⟨y, n2, k2, b2⟩, h3, h4⟩ := Option.bind_eq_some_iff.1 h2
        obtain ⟨hk2, ho2⟩ := ih.1 _ _ _ _ _ _ _ h3 (isM_lt hG hk1 hM (by decide) (by decide)) ho1
        simp only [Option.some.injEq, Prod.mk.injEq] at h4
        obtain ⟨_, rfl, rfl, _⟩ := h4
        exact ⟨hk2, ho2⟩
      · simp only [Option.some.injEq, Prod.mk.injEq] at h2
        obtain ⟨_, rfl, rfl, _⟩ := h2
        exact ⟨hk1, ho1⟩
    · intro names k bad t names' k' bad' h hk ho
      simp only [oneM] at h
      split at h
      · rename_i hM
        simp only [Option.some.injEq, Prod.mk.injEq] at h
        obtain ⟨_, rfl, rfl, _⟩ := h
        exact ⟨isM_lt hG hk hM (by decide) (by decide), ho⟩
      · split at h
        · rename_i hM
          simp only [Option.some.injEq, Prod.mk.injEq] at h
          obtain ⟨_, rfl, rfl, _⟩ := h
          exact ⟨isM_lt hG hk hM (by decide) (by decide), ho⟩
        · split at h
          · rename_i hM
            obtain ⟨⟨x, n1, k1, b1⟩, h1, h2⟩ := Option.bind_eq_some_iff.1 h
            obtain ⟨hk1, ho1⟩ := ih.1 _ _ _ _ _ _ _ h1 (isM_lt hG hk hM (by decide) (by decide)) ho
            simp only [Option.some.injEq, Prod.mk.injEq] at h2
            obtain ⟨_, rfl, rfl, _⟩ := h2
            exact ⟨takeK_lt hG hk1 (by decide) (by decide), ho1⟩
          · split at h
            · rename_i hM
              obtain ⟨⟨x, n1, k1, b1⟩, h1, h2⟩ := Option.bind_eq_some_iff.1 h
              obtain ⟨hk1, ho1⟩ := ih.1 _ _ _ _ _ _ _ h1 (isM_lt hG hk hM (by decide) (by decide)) ho
              simp only at h2
              split at h2
              · rename_i hM2
                obtain ⟨⟨y, n2, k2, b2⟩, h3, h4⟩ := Option.bind_eq_some_iff.1 h2
                obtain ⟨hk2, ho2⟩ := ih.1 _ _ _ _ _ _ _ h3 (isM_lt hG hk1 hM2 (by decide) (by decide)) ho1
                simp only [Option.some.injEq, Prod.mk.injEq] at h4
                obtain ⟨_, rfl, rfl, _⟩ := h4
                exact ⟨takeK_lt hG hk2 (by decide) (by decide), ho2⟩
              · simp only [Option.some.injEq, Prod.mk.injEq] at h2
                obtain ⟨_, rfl, rfl, _⟩ := h2
                exact ⟨takeK_lt hG hk1 (by decide) (by decide), ho1⟩
            · simp only [Option.some.injEq, Prod.mk.injEq] at h
              obtain ⟨_, rfl, rfl, _⟩ := h
              exact ⟨takeK_lt hG hk (by decide) (by decide), ho.name hk⟩

/-- the names of variables: the list that a cell holds. -/
structure Nm (w : World) (nb B : Nat) (names : List ByteArray) : Prop where
  ex : ∃ nv, w.heap[nb]? = some (.cells #[nv] 34 (0, 0)) ∧ w.ownsRow B 9 1 nv names.length (names.map Value.string)
  low : B ≤ nb

theorem Nm.kp {w w' : World} {nb B rb : Nat} {names : List ByteArray} (h : Nm w nb B names) (g : Kp (· = rb) w w') (hr : rb < B) : Nm w' nb B names := by
  obtain ⟨nv, h1, h2⟩ := h.ex
  have hl := h.low
  exact ⟨⟨nv, g.blk h1 (by show ¬ nb = rb; omega), ownsRow_same h2 (fun k e => g.block k (h2.lt k e).2 (by show ¬ k = rb; have := (h2.lt k e).1; omega))⟩, h.low⟩
theorem Nm.alloc {w : World} {nb B : Nat} {names : List ByteArray} (h : Nm w nb B names) (o : Obj) : Nm (w.alloc o) nb B names := by
  obtain ⟨nv, h1, h2⟩ := h.ex
  exact ⟨⟨nv, (Below.heap_alloc w o nb (lt_of_block h1)).trans h1, h2.alloc o⟩, h.low⟩
theorem Nm.drew {w : World} {nb B : Nat} {names : List ByteArray} (h : Nm w nb B names) : Nm w.drew nb B names := by
  obtain ⟨nv, h1, h2⟩ := h.ex
  exact ⟨⟨nv, h1, ownsRow_same h2 (fun _ _ => rfl)⟩, h.low⟩
theorem TKeep.drew (w : World) : TKeep w w.drew := fun _ _ _ _ _ h => h
theorem TKeep.drewN (w : World) (n : Nat) : TKeep w (w.drewN n) := fun _ _ _ _ _ h => h
/-- the reader alone has turned. -/
theorem TKeep.rd {w w' : World} {rb tb c : Nat} {l : List Tk} {k : Nat} {bad : Int} (h : Rd w rb tb c l k bad) (g : Kp (· = rb) w w') : TKeep w w' :=
  TKeep.kp g (fun q hq cs e f hc => by
    have hq : q = rb := hq
    subst hq
    rw [h.rd] at hc
    simp at hc
    obtain ⟨_, rfl, _⟩ := hc
    decide)

/-- what the reader of types leaves. -/
structure TEnd (w w' : World) (rb tb c : Nat) (l : List Tk) (k' : Nat) (bad' : Int) (nb B : Nat) (names' : List ByteArray) : Prop where
  kp : Kp (fun q => q = rb ∨ B ≤ q) w w'
  tk : TKeep w w'
  rd : Rd w' rb tb c l k' bad'
  kl : k' < l.length
  nm : Nm w' nb B names'

end Go.Proofs.YtleenphlgbklmaaGreatDoor
