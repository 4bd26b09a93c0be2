import Derived.Test.YtleenphlgbklmaaGreatDoorRMem
import Derived.Deep.RegionLawGrows
set_option linter.unusedVariables false
set_option linter.unusedSimpArgs false
namespace Go.Proofs.YtleenphlgbklmaaGreatDoor
open Go.RowKit

/-- append to a row of the call's own: the new row is the old one, or a new one. -/
theorem run_append_own2 {P : Program} (w : World) (base : Nat) (t ty e : TypeId) (i : TypeInfo) (z : Value) (size bytes : Nat) (ht : P.underlying t = some (.slice e)) (hi : P.info? e = some i) (hz : i.zero = some z)
    (hsize : i.size = size) (hby : i.bytes = bytes) (hzs : z.cells.size = size) (hsz : 0 < size)
    (v : Value) (n : Nat) (xs : List Value) (hown : w.ownsRow base e size v n xs)
    (a : Addr) (m c : Nat) (news : List Value) (hl : news.length = m * size) (hnews : ∀ j u, news[j]? = some u → w.cell? (a.add j) = some u) (h1 : ∀ u ∈ news, u.oneCell' = true)
    (h63 : n + m ≤ maxLen) (hbytes : (n + m) * bytes ≤ 140737488355328) (hbase : base ≤ w.heap.size) (hm : 0 < m) :
    ∃ g cap w', (Builtin.append_ #[t, t] ty #[v, .slice (some a) m c]).run P w = .ok (.slice (some ⟨g, 0, none⟩) (n + m) cap) w' ∧ w'.ownsRow base e size (.slice (some ⟨g, 0, none⟩) (n + m) cap) (n + m) (xs ++ news) ∧ w.grownBy w' v.ownBlock ∧
      (some g = v.ownBlock ∨ w.heap.size ≤ g) := by
  obtain ⟨v', w', hr, ho, hg, hn⟩ := run_append_own (P := P) w base t ty e i z size bytes ht hi hz hsize hby hzs hsz v n xs hown a m c news hl hnews h1 h63 hbytes hbase
  rcases ho.2 with ⟨e1, e2⟩ | ⟨g, cap, cur, e1, _⟩
  · omega
  subst e1
  refine ⟨g, cap, w', hr, ho, hg, ?_⟩
  rcases hown.2 with ⟨rfl, rfl⟩ | ⟨g0, cap0, cur0, rfl, hbg, hgg, hnc, hcm, hcs, htake⟩
  · right
    obtain rfl : xs = [] := List.eq_nil_of_length_eq_zero (by simpa using hown.1)
    obtain ⟨v2, w2, hr2, ho2, _, _⟩ := run_append_own (P := P) w w.heap.size t ty e i z size bytes ht hi hz hsize hby hzs hsz (.slice none 0 0) 0 [] (World.ownsRow_nil w _ e size) a m c news hl hnews h1 h63 hbytes (Nat.le_refl _)
    rw [hr] at hr2
    injection hr2 with q1 q2
    subst q1
    exact (ho2.lt g rfl).1
  · by_cases hroom : n + m ≤ cap0
    · left
      subst hsize
      have hfit : n * i.size + news.length ≤ cur0.size := by rw [hl, hcs, ← Nat.add_mul]; exact Nat.mul_le_mul_right _ hroom
      have hr2 := run_append_room (P := P) w t ty e i ht hi g0 n cap0 cur0 hgg a m c news hl hnews h1 hroom hfit
      rw [hr] at hr2
      injection hr2 with q1 q2
      injection q1 with q3
      injection q3 with q4
      injection q4 with q5
      simp [Value.ownBlock, q5]
    · right
      obtain ⟨v2, w2, hr2, r1, _⟩ := run_append_arg_grows (P := P) w t ty e i z size bytes ht hi hz hsize hby hzs hsz ⟨g0, 0, none⟩ n cap0 xs hown.1 (hown.cells (g := g0) rfl) a m c news hl hnews (by omega) h63 hbytes
      rw [hr] at hr2
      injection hr2 with q1 q2
      subst q1
      exact (r1.lt g rfl).1

/-- the same, as one step of a region that draws its order. -/
theorem step_append_own2 {P : Program} {ops : Array Oper} {o : Oper} {a : Act} {w : World} {K : Act → World → Prop} {Q : Exit → Act → World → Prop} {E : Prop}
    (hg : o.guard = none) (s x : Operand) (t : TypeId) (hop : o.op = Op.call { callee := Callee.builtin Builtin.append, args := #[s, x], argTypes := #[t, t] })
    (base : Nat) (e : TypeId) (i : TypeInfo) (z : Value) (size bytes : Nat) (ht : P.underlying t = some (.slice e)) (hi : P.info? e = some i) (hz : i.zero = some z)
    (hsize : i.size = size) (hby : i.bytes = bytes) (hzs : z.cells.size = size) (hsz : 0 < size)
    (v : Value) (n : Nat) (xs : List Value) (hs : a.eval s = v) (hown : w.ownsRow base e size v n xs)
    (ad : Addr) (m c : Nat) (news : List Value) (hx : a.eval x = .slice (some ad) m c) (hl : news.length = m * size) (hnews : ∀ j u, news[j]? = some u → w.cell? (ad.add j) = some u) (h1 : ∀ u ∈ news, u.oneCell' = true)
    (h63 : n + m ≤ maxLen) (hbytes : (n + m) * bytes ≤ 140737488355328) (hbase : base ≤ w.heap.size) (hm : 0 < m)
    (hK : ∀ g cap w', w'.ownsRow base e size (.slice (some ⟨g, 0, none⟩) (n + m) cap) (n + m) (xs ++ news) → w.grownBy w' v.ownBlock → (some g = v.ownBlock ∨ w.heap.size ≤ g) → K (a.put o.dst (.slice (some ⟨g, 0, none⟩) (n + m) cap)) w') :
    if Region.wanted o (yielded ops a.tmps) = true then Oper.wp P o a w K Q else E := by
  have hw : Region.wanted o (yielded ops a.tmps) = true := by simp [Region.wanted, hg]
  rw [if_pos hw]
  obtain ⟨g, cap, w', hrun, r1, r2, r3⟩ := run_append_own2 (P := P) w base t o.type e i z size bytes ht hi hz hsize hby hzs hsz v n xs hown ad m c news hl hnews h1 h63 hbytes hbase hm
  unfold Oper.wp
  simp only [execOp, hop, resolve, invoke, builtin, Sem.run_bind, Sem.run_pure, Result.andThen_ok, List.map_toArray, List.map_cons, List.map_nil, hs, hx, hrun]
  exact hK g cap w' r1 r2 r3

theorem wpList_append_own2 {P : Program} (w : World) {ops : Array Oper} {rest : List Oper} {o : Oper} {a : Act} {Q : Exit → Act → World → Prop} (hgd : o.guard = none) (s x : Operand) (t : TypeId)
    (ho : o.op = .call { callee := .builtin .append, args := #[s, x], argTypes := #[t, t] })
    (base : Nat) (e : TypeId) (i : TypeInfo) (z : Value) (size bytes : Nat) (ht : P.underlying t = some (.slice e)) (hi : P.info? e = some i) (hz : i.zero = some z)
    (hsize : i.size = size) (hby : i.bytes = bytes) (hzs : z.cells.size = size) (hsz : 0 < size)
    (v : Value) (n : Nat) (xs : List Value) (hs : a.eval s = v) (hown : w.ownsRow base e size v n xs)
    (ad : Addr) (m c : Nat) (news : List Value) (hx : a.eval x = .slice (some ad) m c) (hl : news.length = m * size) (hnews : ∀ j u, news[j]? = some u → w.cell? (ad.add j) = some u) (h1 : ∀ u ∈ news, u.oneCell' = true)
    (h63 : n + m ≤ maxLen) (hbytes : (n + m) * bytes ≤ 140737488355328) (hbase : base ≤ w.heap.size) (hm : 0 < m)
    (h : ∀ g cap w', w'.ownsRow base e size (.slice (some ⟨g, 0, none⟩) (n + m) cap) (n + m) (xs ++ news) → w.grownBy w' v.ownBlock → (some g = v.ownBlock ∨ w.heap.size ≤ g) → wpList P ops Q rest (a.put o.dst (.slice (some ⟨g, 0, none⟩) (n + m) cap)) w') : wpList P ops Q (o :: rest) a w := by
  refine wpList_plain hgd fun K hK => ?_
  obtain ⟨g, cap, w', hrun, r1, r2, r3⟩ := run_append_own2 (P := P) w base t o.type e i z size bytes ht hi hz hsize hby hzs hsz v n xs hown ad m c news hl hnews h1 h63 hbytes hbase hm
  unfold Oper.wp execOp
  simp only [ho, resolve, invoke, builtin, Sem.run_bind, Sem.run_pure, Result.andThen_ok, List.map_toArray, List.map_cons, List.map_nil, hs, hx, hrun]
  exact hK _ _ (h g cap w' r1 r2 r3)
end Go.Proofs.YtleenphlgbklmaaGreatDoor

namespace Go.Proofs.YtleenphlgbklmaaGreatDoor
open Go.RowKit

/-- an expression of the document's reader. -/
inductive X where
  | mk (op : ByteArray) (names : List ByteArray) (kids : List X) (loc : Nat)
def X.loc : X → Nat | .mk _ _ _ a => a
def X.op : X → ByteArray | .mk o _ _ _ => o

mutual
/-- the value v leads to that expression; fs: the blocks that it lies in. -/
def Rep (w : World) : X → Value → List Nat → Prop
  | .mk op names kids loc, v, fs => ∃ b nv lv ps fk, v = .pointer (some ⟨b, 0, none⟩) ∧ w.heap[b]? = some (.cells #[.string op, nv, lv, .int .i64 loc] 87 (0, 0)) ∧
      w.ownsRow 0 9 1 nv names.length (names.map Value.string) ∧ w.ownsRow 0 26 1 lv ps.length ps ∧ Reps w kids ps fk ∧ fs = b :: (nv.ownBlock.toList ++ lv.ownBlock.toList ++ fk)
def Reps (w : World) : List X → List Value → List Nat → Prop
  | [], ps, fs => ps = [] ∧ fs = []
  | x :: xs, ps, fs => ∃ p qs f1 f2, ps = p :: qs ∧ Rep w x p f1 ∧ Reps w xs qs f2 ∧ fs = f1 ++ f2
end

theorem ownsRow_base {w : World} {b b' : Nat} {e : TypeId} {z : Nat} {v : Value} {n : Nat} {xs : List Value} (h : w.ownsRow b e z v n xs) (hb : b' ≤ b) : w.ownsRow b' e z v n xs := by
  refine ⟨h.1, ?_⟩
  rcases h.2 with h | ⟨g, cap, cur, h1, h2, h3⟩
  · exact .inl h
  · exact .inr ⟨g, cap, cur, h1, by omega, h3⟩
theorem ownsRow_same {w w' : World} {b : Nat} {e : TypeId} {z : Nat} {v : Value} {n : Nat} {xs : List Value} (h : w.ownsRow b e z v n xs) (hs : ∀ k, v.ownBlock = some k → w'.heap[k]? = w.heap[k]?) : w'.ownsRow b e z v n xs := by
  refine ⟨h.1, ?_⟩
  rcases h.2 with h | ⟨g, cap, cur, h1, h2, h3, h4⟩
  · exact .inl h
  · subst h1
    exact .inr ⟨g, cap, cur, rfl, h2, (hs g rfl).trans h3, h4⟩

mutual
theorem Rep.same {w w' : World} : ∀ (x : X) {v : Value} {fs : List Nat}, Rep w x v fs → (∀ b, b ∈ fs → w'.heap[b]? = w.heap[b]?) → Rep w' x v fs
  | .mk op names kids loc, v, fs, h, hs => by
    simp only [Rep] at h ⊢
    obtain ⟨b, nv, lv, ps, fk, h1, h2, h3, h4, h5, h6⟩ := h
    subst h6
    refine ⟨b, nv, lv, ps, fk, h1, (hs b (by simp)).trans h2, ownsRow_same h3 (fun k e => hs k (by simp [e])), ownsRow_same h4 (fun k e => hs k (by simp [e])), Reps.same kids h5 (fun k e => hs k (by simp [e])), rfl⟩
theorem Reps.same {w w' : World} : ∀ (xs : List X) {ps : List Value} {fs : List Nat}, Reps w xs ps fs → (∀ b, b ∈ fs → w'.heap[b]? = w.heap[b]?) → Reps w' xs ps fs
  | [], ps, fs, h, _ => by simpa only [Reps] using h
  | x :: xs, ps, fs, h, hs => by
    simp only [Reps] at h ⊢
    obtain ⟨p, qs, f1, f2, h1, h2, h3, h4⟩ := h
    subst h4
    exact ⟨p, qs, f1, f2, h1, Rep.same x h2 (fun k e => hs k (by simp [e])), Reps.same xs h3 (fun k e => hs k (by simp [e])), rfl⟩
end
theorem Reps.snoc {w : World} : ∀ {xs : List X} {ps : List Value} {fs : List Nat} {x : X} {p : Value} {f : List Nat}, Reps w xs ps fs → Rep w x p f → Reps w (xs ++ [x]) (ps ++ [p]) (fs ++ f)
  | [], ps, fs, x, p, f, h, hx => by
    simp only [Reps] at h
    obtain ⟨rfl, rfl⟩ := h
    simp only [List.nil_append, Reps]
    exact ⟨p, [], f, [], rfl, hx, ⟨rfl, rfl⟩, by simp⟩
  | y :: xs, ps, fs, x, p, f, h, hx => by
    simp only [Reps] at h
    obtain ⟨q, qs, f1, f2, rfl, h2, h3, rfl⟩ := h
    simp only [List.cons_append, Reps]
    exact ⟨q, qs ++ [p], f1, f2 ++ f, rfl, h2, h3.snoc hx, by simp⟩
theorem Reps.len {w : World} : ∀ {xs : List X} {ps : List Value} {fs : List Nat}, Reps w xs ps fs → ps.length = xs.length
  | [], ps, fs, h => by simp only [Reps] at h; rw [h.1]; rfl
  | x :: xs, ps, fs, h => by
    simp only [Reps] at h
    obtain ⟨q, qs, f1, f2, rfl, h2, h3, rfl⟩ := h
    simp [h3.len]

/-- an expression in the making: at block xb, all of it at blocks from B on. -/
structure Bld (w : World) (B xb : Nat) (op : ByteArray) (names : List ByteArray) (kids : List X) (loc : Nat) (nv lv : Value) (ps : List Value) (fk : List Nat) : Prop where
  blk : w.heap[xb]? = some (.cells #[.string op, nv, lv, .int .i64 loc] 87 (0, 0))
  nm : w.ownsRow B 9 1 nv names.length (names.map Value.string)
  kd : w.ownsRow B 26 1 lv ps.length ps
  rp : Reps w kids ps fk
  out : ∀ b, b ∈ fk → B ≤ b ∧ b ≠ xb ∧ nv.ownBlock ≠ some b ∧ lv.ownBlock ≠ some b
  low : B ≤ xb

section
variable {w w' : World} {B xb : Nat} {op : ByteArray} {names : List ByteArray} {kids : List X} {loc : Nat} {nv lv : Value} {ps : List Value} {fk : List Nat}

theorem Bld.fk_lt (h : Bld w B xb op names kids loc nv lv ps fk) : ps.length = kids.length := h.rp.len
theorem Bld.rep (h : Bld w B xb op names kids loc nv lv ps fk) : Rep w (.mk op names kids loc) (.pointer (some ⟨xb, 0, none⟩)) (xb :: (nv.ownBlock.toList ++ lv.ownBlock.toList ++ fk)) := by
  simp only [Rep]
  exact ⟨xb, nv, lv, ps, fk, rfl, h.blk, ownsRow_base h.nm (Nat.zero_le _), ownsRow_base h.kd (Nat.zero_le _), h.rp, rfl⟩
theorem Bld.fs_low (h : Bld w B xb op names kids loc nv lv ps fk) : ∀ b, b ∈ (xb :: (nv.ownBlock.toList ++ lv.ownBlock.toList ++ fk)) → B ≤ b := by
  intro b hb
  simp only [List.mem_cons, List.mem_append, Option.mem_toList] at hb
  rcases hb with rfl | (hb | hb) | hb
  · exact h.low
  · exact (h.nm.lt b hb).1
  · exact (h.kd.lt b hb).1
  · exact (h.out b hb).1
/-- nothing of it has turned. -/
theorem Bld.same (h : Bld w B xb op names kids loc nv lv ps fk) (hs : ∀ b, b < w.heap.size → B ≤ b → w'.heap[b]? = w.heap[b]?) (hf : ∀ b, b ∈ fk → b < w.heap.size) : Bld w' B xb op names kids loc nv lv ps fk :=
  ⟨(hs xb (lt_of_block h.blk) h.low).trans h.blk, ownsRow_same h.nm (fun k e => hs k (h.nm.lt k e).2 (h.nm.lt k e).1), ownsRow_same h.kd (fun k e => hs k (h.kd.lt k e).2 (h.kd.lt k e).1),
    Reps.same kids h.rp (fun b hb => hs b (hf b hb) (h.out b hb).1), h.out, h.low⟩
end

mutual
theorem Rep.lt {w : World} : ∀ (x : X) {v : Value} {fs : List Nat}, Rep w x v fs → ∀ b, b ∈ fs → b < w.heap.size
  | .mk op names kids loc, v, fs, h, b, hb => by
    simp only [Rep] at h
    obtain ⟨b0, nv, lv, ps, fk, h1, h2, h3, h4, h5, h6⟩ := h
    subst h6
    simp only [List.mem_cons, List.mem_append, Option.mem_toList] at hb
    rcases hb with rfl | (hb | hb) | hb
    · exact lt_of_block h2
    · exact (h3.lt b hb).2
    · exact (h4.lt b hb).2
    · exact Reps.lt kids h5 b hb
theorem Reps.lt {w : World} : ∀ (xs : List X) {ps : List Value} {fs : List Nat}, Reps w xs ps fs → ∀ b, b ∈ fs → b < w.heap.size
  | [], ps, fs, h, b, hb => by simp only [Reps] at h; rw [h.2] at hb; cases hb
  | x :: xs, ps, fs, h, b, hb => by
    simp only [Reps] at h
    obtain ⟨p, qs, f1, f2, h1, h2, h3, h4⟩ := h
    subst h4
    simp only [List.mem_append] at hb
    rcases hb with hb | hb
    · exact Rep.lt x h2 b hb
    · exact Reps.lt xs h3 b hb
end

section
variable {w w' : World} {B xb rb : Nat} {op : ByteArray} {names : List ByteArray} {kids : List X} {loc : Nat} {nv lv : Value} {ps : List Value} {fk : List Nat}

theorem Bld.kp (h : Bld w B xb op names kids loc nv lv ps fk) (g : Kp (· = rb) w w') (hr : rb < B) : Bld w' B xb op names kids loc nv lv ps fk :=
  h.same (fun b hb hB => g.block b hb (by show ¬ b = rb; omega)) (Reps.lt kids h.rp)
theorem Bld.c0 (h : Bld w B xb op names kids loc nv lv ps fk) : w.cell? ⟨xb, 0, none⟩ = some (.string op) := by simp [World.cell?, h.blk]
theorem Bld.c1 (h : Bld w B xb op names kids loc nv lv ps fk) : w.cell? ⟨xb, 1, none⟩ = some nv := by simp [World.cell?, h.blk]
theorem Bld.c2 (h : Bld w B xb op names kids loc nv lv ps fk) : w.cell? ⟨xb, 2, none⟩ = some lv := by simp [World.cell?, h.blk]
theorem Bld.c3 (h : Bld w B xb op names kids loc nv lv ps fk) : w.cell? ⟨xb, 3, none⟩ = some (.int .i64 loc) := by simp [World.cell?, h.blk]
theorem Bld.fz (h : Bld w B xb op names kids loc nv lv ps fk) (i : Nat) : w.frozen? ⟨xb, i, none⟩ = false := by simp [World.frozen?, h.blk]

/-- another type than the row's: no block of it. -/
theorem row_ne {w : World} {base : Nat} {e e' : TypeId} {z : Nat} {v : Value} {n : Nat} {xs : List Value} (h : w.ownsRow base e z v n xs) {pb : Nat} {cs : Array Value} (hp : w.heap[pb]? = some (.cells cs e' (0, 0))) (he : e ≠ e') : v.ownBlock ≠ some pb := by
  rcases h.2 with ⟨rfl, _⟩ | ⟨g, cap, cur, rfl, _, hg, _⟩
  · simp [Value.ownBlock]
  · simp only [Value.ownBlock]
    intro q
    obtain rfl := Option.some.inj q
    rw [hg] at hp
    simp at hp
    exact he hp.2
theorem rows_ne {w : World} {base base' : Nat} {e e' : TypeId} {z z' : Nat} {v v' : Value} {n n' : Nat} {xs xs' : List Value} (h : w.ownsRow base e z v n xs) (h' : w.ownsRow base' e' z' v' n' xs') (he : e ≠ e') : ∀ k, v.ownBlock = some k → v'.ownBlock ≠ some k := by
  intro k hk
  rcases h.2 with ⟨rfl, _⟩ | ⟨g, cap, cur, rfl, _, hg, _⟩
  · simp [Value.ownBlock] at hk
  · simp only [Value.ownBlock] at hk
    obtain rfl := Option.some.inj hk
    exact row_ne h' hg (Ne.symm he)

theorem Bld.setOp (h : Bld w B xb op names kids loc nv lv ps fk) (op' : ByteArray) : Bld (w.setCell ⟨xb, 0, none⟩ (.string op')) B xb op' names kids loc nv lv ps fk := by
  have hn := row_ne h.nm h.blk (by decide)
  have hk := row_ne h.kd h.blk (by decide)
  refine ⟨?_, ownsRow_setCell_other h.nm hn _, ownsRow_setCell_other h.kd hk _, Reps.same kids h.rp (fun b hb => Below.heap_setCell _ _ _ _ (h.out b hb).2.1), h.out, h.low⟩
  simp [World.setCell, h.blk, Array.getElem?_modify]

/-- one name more: the append's world w1, then the store. -/
theorem Bld.name (h : Bld w B xb op names kids loc nv lv ps fk) {o : Obj} {w1 : World} {g cap : Nat} {nm : ByteArray}
    (ho : w1.ownsRow B 9 1 (.slice (some ⟨g, 0, none⟩) (names.length + 1) cap) (names.length + 1) (names.map Value.string ++ [.string nm])) (hg : (w.alloc o).grownBy w1 nv.ownBlock) (hf : some g = nv.ownBlock ∨ w.heap.size < g) :
    Bld (w1.setCell ⟨xb, 1, none⟩ (.slice (some ⟨g, 0, none⟩) (names.length + 1) cap)) B xb op (names ++ [nm]) kids loc (.slice (some ⟨g, 0, none⟩) (names.length + 1) cap) lv ps fk := by
  have hlt : ∀ b, b < w.heap.size → some b ≠ nv.ownBlock → w1.heap[b]? = w.heap[b]? := fun b hb hne => by
    rw [hg.block b (by simp; omega) hne, Below.heap_alloc _ _ _ hb]
  have hxl := lt_of_block h.blk
  have hn := row_ne h.nm h.blk (by decide)
  have hk := row_ne h.kd h.blk (by decide)
  have hx1 : w1.heap[xb]? = some (.cells #[.string op, nv, lv, .int .i64 loc] 87 (0, 0)) := (hlt xb hxl (Ne.symm hn)).trans h.blk
  have hgx : g ≠ xb := by
    rcases hf with e | e
    · intro q; subst q; exact hn e.symm
    · omega
  refine ⟨?_, ?_, ?_, ?_, ?_, h.low⟩
  · simp [World.setCell, hx1, Array.getElem?_modify]
  · have := ownsRow_setCell_other ho (a := ⟨xb, 1, none⟩) (by simp [Value.ownBlock, hgx]) (.slice (some ⟨g, 0, none⟩) (names.length + 1) cap)
    simpa using this
  · refine ownsRow_setCell_other (ownsRow_same h.kd fun k e => hlt k (h.kd.lt k e).2 (fun q => rows_ne h.kd h.nm (by decide) k e q.symm)) hk _
  · refine Reps.same kids h.rp (fun b hb => ?_)
    rw [Below.heap_setCell _ _ _ _ (h.out b hb).2.1]
    exact hlt b (Reps.lt kids h.rp b hb) (Ne.symm (h.out b hb).2.2.1)
  · intro b hb
    have hbl := Reps.lt kids h.rp b hb
    refine ⟨(h.out b hb).1, (h.out b hb).2.1, ?_, (h.out b hb).2.2.2⟩
    simp only [Value.ownBlock]
    intro q
    obtain rfl := Option.some.inj q
    rcases hf with e | e
    · exact (h.out g hb).2.2.1 e.symm
    · omega

/-- one part more. -/
theorem Bld.kid (h : Bld w B xb op names kids loc nv lv ps fk) {o : Obj} {w1 : World} {g cap : Nat} {x : X} {p : Value} {f : List Nat} (hx : Rep w x p f) (hlow : ∀ b, b ∈ f → B ≤ b ∧ b ≠ xb ∧ nv.ownBlock ≠ some b ∧ lv.ownBlock ≠ some b)
    (ho : w1.ownsRow B 26 1 (.slice (some ⟨g, 0, none⟩) (ps.length + 1) cap) (ps.length + 1) (ps ++ [p])) (hg : (w.alloc o).grownBy w1 lv.ownBlock) (hf : some g = lv.ownBlock ∨ w.heap.size < g) :
    Bld (w1.setCell ⟨xb, 2, none⟩ (.slice (some ⟨g, 0, none⟩) (ps.length + 1) cap)) B xb op names (kids ++ [x]) loc nv (.slice (some ⟨g, 0, none⟩) (ps.length + 1) cap) (ps ++ [p]) (fk ++ f) := by
  have hlt : ∀ b, b < w.heap.size → some b ≠ lv.ownBlock → w1.heap[b]? = w.heap[b]? := fun b hb hne => by
    rw [hg.block b (by simp; omega) hne, Below.heap_alloc _ _ _ hb]
  have hxl := lt_of_block h.blk
  have hn := row_ne h.nm h.blk (by decide)
  have hk := row_ne h.kd h.blk (by decide)
  have hx1 : w1.heap[xb]? = some (.cells #[.string op, nv, lv, .int .i64 loc] 87 (0, 0)) := (hlt xb hxl (Ne.symm hk)).trans h.blk
  have hgx : g ≠ xb := by
    rcases hf with e | e
    · intro q; subst q; exact hk e.symm
    · omega
  refine ⟨?_, ?_, ?_, ?_, ?_, h.low⟩
  · simp [World.setCell, hx1, Array.getElem?_modify]
  · refine ownsRow_setCell_other (ownsRow_same h.nm fun k e => hlt k (h.nm.lt k e).2 (fun q => rows_ne h.nm h.kd (by decide) k e q.symm)) hn _
  · have := ownsRow_setCell_other ho (a := ⟨xb, 2, none⟩) (by simp [Value.ownBlock, hgx]) (.slice (some ⟨g, 0, none⟩) (ps.length + 1) cap)
    simpa using this
  · refine (Reps.same kids h.rp (fun b hb => ?_)).snoc (Rep.same x hx (fun b hb => ?_))
    · rw [Below.heap_setCell _ _ _ _ (h.out b hb).2.1]
      exact hlt b (Reps.lt kids h.rp b hb) (Ne.symm (h.out b hb).2.2.2)
    · rw [Below.heap_setCell _ _ _ _ (hlow b hb).2.1]
      exact hlt b (Rep.lt x hx b hb) (Ne.symm (hlow b hb).2.2.2)
  · intro b hb
    simp only [List.mem_append] at hb
    have hbl : b < w.heap.size := by
      rcases hb with hb | hb
      · exact Reps.lt kids h.rp b hb
      · exact Rep.lt x hx b hb
    have hall : B ≤ b ∧ b ≠ xb ∧ nv.ownBlock ≠ some b ∧ lv.ownBlock ≠ some b := by
      rcases hb with hb | hb
      · exact h.out b hb
      · exact hlow b hb
    refine ⟨hall.1, hall.2.1, hall.2.2.1, ?_⟩
    simp only [Value.ownBlock]
    intro q
    obtain rfl := Option.some.inj q
    rcases hf with e | e
    · exact hall.2.2.2 e.symm
    · omega
end
end Go.Proofs.YtleenphlgbklmaaGreatDoor

namespace Go.Proofs.YtleenphlgbklmaaGreatDoor

mutual
def expM (l : List Tk) : Nat → Nat → Int → Option (X × Nat × Int)
  | 0, _, _ => none
  | n + 1, k, bad =>
    if 0 ≤ bad then some (.mk { data := #[] } [] [] (tkAt l k).loc, k, bad)
    else if isM l { data := #[102, 117, 110] } k bad then
      (expM l n (takeK l { data := #[45, 62] } (takeK l { data := #[110, 97, 109, 101] } (k + 1) bad) (needB l { data := #[110, 97, 109, 101] } (k + 1) bad)) (needB l { data := #[45, 62] } (takeK l { data := #[110, 97, 109, 101] } (k + 1) bad) (needB l { data := #[110, 97, 109, 101] } (k + 1) bad))).bind fun r =>
        some (.mk { data := #[102, 117, 110] } [(tkAt l (k + 1)).s] [r.1] (tkAt l k).loc, r.2.1, r.2.2)
    else if isM l { data := #[105, 102] } k bad then
      (expM l n (k + 1) bad).bind fun r =>
      (expM l n (takeK l { data := #[116, 104, 101, 110] } r.2.1 r.2.2) (needB l { data := #[116, 104, 101, 110] } r.2.1 r.2.2)).bind fun s =>
      (expM l n (takeK l { data := #[101, 108, 115, 101] } s.2.1 s.2.2) (needB l { data := #[101, 108, 115, 101] } s.2.1 s.2.2)).bind fun t =>
        some (.mk { data := #[105, 102] } [] [r.1, s.1, t.1] (tkAt l k).loc, t.2.1, t.2.2)
    else if isM l { data := #[108, 101, 116] } k bad then
      if isM l { data := #[114, 101, 99] } (k + 1) bad then
        (boundM l n [] [] (k + 2) bad).bind fun r =>
        (andM l n r.1 r.2.1 r.2.2.1 r.2.2.2).bind fun s =>
        (expM l n (takeK l { data := #[105, 110] } s.2.2.1 s.2.2.2) (needB l { data := #[105, 110] } s.2.2.1 s.2.2.2)).bind fun t =>
          some (.mk { data := #[114, 101, 99] } s.1 (s.2.1 ++ [t.1]) (tkAt l k).loc, t.2.1, t.2.2)
      else
        (boundM l n [] [] (k + 1) bad).bind fun s =>
        (expM l n (takeK l { data := #[105, 110] } s.2.2.1 s.2.2.2) (needB l { data := #[105, 110] } s.2.2.1 s.2.2.2)).bind fun t =>
          some (.mk { data := #[108, 101, 116] } s.1 (s.2.1 ++ [t.1]) (tkAt l k).loc, t.2.1, t.2.2)
    else
      (atomM l n k bad).bind fun r => appM l n r.1 r.2.1 r.2.2
def boundM (l : List Tk) : Nat → List ByteArray → List X → Nat → Int → Option (List ByteArray × List X × Nat × Int)
  | 0, _, _, _, _ => none
  | n + 1, names, kids, k, bad =>
    let b2 := dupB names (tkAt l k).s (tkAt l k).loc (needB l { data := #[110, 97, 109, 101] } k bad)
    (expM l n (takeK l { data := #[61] } (takeK l { data := #[110, 97, 109, 101] } k bad) b2) (needB l { data := #[61] } (takeK l { data := #[110, 97, 109, 101] } k bad) b2)).bind fun r =>
      some (names ++ [(tkAt l k).s], kids ++ [r.1], r.2.1, r.2.2)
def andM (l : List Tk) : Nat → List ByteArray → List X → Nat → Int → Option (List ByteArray × List X × Nat × Int)
  | 0, _, _, _, _ => none
  | n + 1, names, kids, k, bad =>
    if isM l { data := #[97, 110, 100] } k bad then
      (boundM l n names kids (k + 1) bad).bind fun r => andM l n r.1 r.2.1 r.2.2.1 r.2.2.2
    else some (names, kids, k, bad)
def atomM (l : List Tk) : Nat → Nat → Int → Option (X × Nat × Int)
  | 0, _, _ => none
  | n + 1, k, bad =>
    if isM l { data := #[110, 97, 109, 101] } k bad || isM l { data := #[110, 117, 109] } k bad then some (.mk (tkAt l k).is [(tkAt l k).s] [] (tkAt l k).loc, k + 1, bad)
    else
      (expM l n (takeK l { data := #[40] } k bad) (needB l { data := #[40] } k bad)).bind fun r =>
      if isM l { data := #[44] } r.2.1 r.2.2 then
        (expM l n (r.2.1 + 1) r.2.2).bind fun s =>
          some (.mk { data := #[112, 97, 105, 114] } [] [r.1, s.1] (tkAt l k).loc, takeK l { data := #[41] } s.2.1 s.2.2, needB l { data := #[41] } s.2.1 s.2.2)
      else some (r.1, takeK l { data := #[41] } r.2.1 r.2.2, needB l { data := #[41] } r.2.1 r.2.2)
def appM (l : List Tk) : Nat → X → Nat → Int → Option (X × Nat × Int)
  | 0, _, _, _ => none
  | n + 1, x, k, bad =>
    if isM l { data := #[110, 97, 109, 101] } k bad || isM l { data := #[110, 117, 109] } k bad || isM l { data := #[40] } k bad then
      (atomM l n k bad).bind fun r => appM l n (.mk { data := #[97, 112, 112] } [] [x, r.1] x.loc) r.2.1 r.2.2
    else some (x, k, bad)
end

/-- no token but the last is an end, or none. -/
def Good (l : List Tk) : Prop := ∀ k, k < l.length → ∀ s : ByteArray, s.data.toList ≠ ({ data := #[101, 110, 100] } : ByteArray).data.toList → s.data.toList ≠ ({ data := #[110, 111, 110, 101] } : ByteArray).data.toList → ((tkAt l k).is.data.toList == s.data.toList) = true → k + 1 < l.length

theorem isM_bad {l : List Tk} {s : ByteArray} {k : Nat} {bad : Int} (h : isM l s k bad = true) : bad < 0 := by
  simp [isM] at h; exact h.1
theorem isM_lt {l : List Tk} {s : ByteArray} {k : Nat} {bad : Int} (hg : Good l) (hk : k < l.length) (h : isM l s k bad = true) (h1 : s.data.toList ≠ ({ data := #[101, 110, 100] } : ByteArray).data.toList) (h2 : s.data.toList ≠ ({ data := #[110, 111, 110, 101] } : ByteArray).data.toList) : k + 1 < l.length := by
  simp only [isM, Bool.and_eq_true] at h
  exact hg k hk s h1 h2 h.2
theorem takeK_lt {l : List Tk} {s : ByteArray} {k : Nat} {bad : Int} (hg : Good l) (hk : k < l.length) (h1 : s.data.toList ≠ ({ data := #[101, 110, 100] } : ByteArray).data.toList) (h2 : s.data.toList ≠ ({ data := #[110, 111, 110, 101] } : ByteArray).data.toList) : takeK l s k bad < l.length := by
  unfold takeK
  split
  · exact isM_lt hg hk (by assumption) h1 h2
  · exact hk
end Go.Proofs.YtleenphlgbklmaaGreatDoor

namespace Go.Proofs.YtleenphlgbklmaaGreatDoor

theorem clsK_bd (s : ByteArray) (i : Nat) (h : i ≤ s.size) : i ≤ clsK s i ∧ clsK s i ≤ s.size := by
  unfold clsK
  split
  · split
    · exact ⟨run_ge _ _ _, run_le _ _ _ h⟩
    · split
      · exact ⟨run_ge _ _ _, run_le _ _ _ h⟩
      · split
        · rename_i hh; omega
        · split <;> omega
  · omega
theorem toks_len (s : ByteArray) (kws : List ByteArray) : ∀ n i, (toksF s kws n i).length ≤ n
  | 0, i => by simp [toksF]
  | n + 1, i => by
    rw [toksF]
    split
    · simp
    · simp only [List.length_cons]
      have := toks_len s kws n (tok1 s kws (run blI s i)).2
      omega
theorem tkAt_zero (t : Tk) (l : List Tk) : tkAt (t :: l) 0 = t := by simp [tkAt]
theorem tkAt_succ (t : Tk) (l : List Tk) (k : Nat) : tkAt (t :: l) (k + 1) = tkAt l k := by simp [tkAt]
theorem toks_last (s : ByteArray) (kws : List ByteArray) : ∀ n i, i ≤ s.size → s.size + 1 ≤ i + n → ∀ k, k < (toksF s kws n i).length → lastT (tkAt (toksF s kws n i) k) = false → k + 1 < (toksF s kws n i).length
  | 0, i, h1, h2, k, hk, hl => by omega
  | n + 1, i, h1, h2, k, hk, hl => by
    rw [toksF] at hk hl ⊢
    split at hk
    · rename_i c
      rw [if_pos c] at hl
      simp only [List.length_cons, List.length_nil] at hk
      have : k = 0 := by omega
      subst this
      rw [tkAt_zero, c] at hl
      cases hl
    · rename_i c
      rw [if_neg c] at hl ⊢
      have c' : lastT (tok1 s kws (run blI s i)).1 = false := by simpa using c
      have g1 := tok1_gt s kws _ c'
      have g2 := run_ge blI s i
      have g3 := run_le blI s i h1
      have g4 := (clsK_bd s _ g3).2
      have e2 : (tok1 s kws (run blI s i)).2 = clsK s (run blI s i) := rfl
      have ihn := toks_last s kws n (tok1 s kws (run blI s i)).2 (by rw [e2]; exact g4) (by rw [e2]; omega)
      cases k with
      | zero =>
        have : 0 < (toksF s kws n (tok1 s kws (run blI s i)).2).length := by
          cases n with
          | zero => omega
          | succ n => rw [toksF]; split <;> simp
        simp only [List.length_cons]
        omega
      | succ k =>
        simp only [List.length_cons] at hk ⊢
        rw [tkAt_succ] at hl
        have := ihn k (by omega) hl
        omega
theorem toks_good (s : ByteArray) (kws : List ByteArray) : Good (toksF s kws (s.size + 1) 0) := by
  intro k hk w h1 h2 he
  refine toks_last s kws (s.size + 1) 0 (by omega) (by omega) k hk ?_
  simp only [beq_iff_eq] at he
  simp only [lastT, he, Bool.or_eq_false_iff, beq_eq_false_iff_ne]
  exact ⟨h2, h1⟩
theorem toks_pos (s : ByteArray) (kws : List ByteArray) : 0 < (toksF s kws (s.size + 1) 0).length := by
  rw [toksF]; split <;> simp
theorem toks_size (s : ByteArray) (kws : List ByteArray) : ∀ n i k, (tkAt (toksF s kws n i) k).s.size ≤ s.size
  | 0, i, k => by
    have : tkAt (toksF s kws 0 i) k = Tk.no := by simp [tkAt, toksF]
    rw [this]
    exact Nat.zero_le _
  | n + 1, i, k => by
    have ht : (tok1 s kws (run blI s i)).1.s.size ≤ s.size := by
      show (s.extract _ _).size ≤ s.size
      rw [ByteArray.size_extract]
      omega
    rw [toksF]
    split
    · cases k with
      | zero => rw [tkAt_zero]; exact ht
      | succ k => rw [tkAt_succ]; exact Nat.zero_le _
    · cases k with
      | zero => rw [tkAt_zero]; exact ht
      | succ k => rw [tkAt_succ]; exact toks_size s kws n _ k
end Go.Proofs.YtleenphlgbklmaaGreatDoor
