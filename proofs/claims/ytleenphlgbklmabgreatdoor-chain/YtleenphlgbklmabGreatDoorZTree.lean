import Derived.Test.YtleenphlgbklmabGreatDoorProg
import Derived.WalkKit
import Derived.Deep.QuietTactic
import Derived.BigQuiet
import Derived.WalkSmall
import Derived.Laws.OwnMore
import Derived.Deep.RegionLawGrows
set_option linter.unusedVariables false
set_option linter.unusedSimpArgs false
namespace Go.Proofs.YtleenphlgbklmabGreatDoor

/-- a token of the document's reader. -/
structure Tk where
  is : ByteArray
  s : ByteArray
  loc : Nat

def Tk.no : Tk := ⟨{ data := #[] }, { data := #[] }, 0⟩
def tkAt (l : List Tk) (k : Nat) : Tk := l.getD k Tk.no

/-- does the next token bear that kind? -/
def isM (l : List Tk) (w : ByteArray) (k : Nat) (bad : Int) : Bool := decide (bad < 0) && ((tkAt l k).is.data.toList == w.data.toList)
/-- behind take: the place. -/
def takeK (l : List Tk) (w : ByteArray) (k : Nat) (bad : Int) : Nat := if isM l w k bad then k + 1 else k
/-- behind need: the fault. -/
def needB (l : List Tk) (w : ByteArray) (k : Nat) (bad : Int) : Int := if !isM l w k bad && decide (bad < 0) then ((tkAt l k).loc : Int) else bad
/-- behind the look for a name that stands there already. -/
def dupB (names : List ByteArray) (s : ByteArray) (loc : Nat) (bad : Int) : Int := if names.any (fun m => m.data.toList == s.data.toList) && decide (bad < 0) then (loc : Int) else bad
end Go.Proofs.YtleenphlgbklmabGreatDoor

namespace Go.Proofs.YtleenphlgbklmabGreatDoor

/-- the byte at a place. -/
def chr (s : ByteArray) (i : Nat) : Int := if h : i < s.size then ((s[i]'h).toNat : Int) else 0
theorem chr_eq (s : ByteArray) (i : Nat) (h : i < s.size) : ((s[i]'h).toNat : Int) = chr s i := by simp [chr, h]
def lowI (c : Int) : Bool := decide (97 ≤ c) && decide (c ≤ 122)
def figI (c : Int) : Bool := decide (48 ≤ c) && decide (c ≤ 57)
def lfI (c : Int) : Bool := lowI c || figI c
def blI (c : Int) : Bool := (c == 32) || (c == 10)

/-- from a place on, over all bytes of a kind. -/
def runF (p : Int → Bool) (s : ByteArray) : Nat → Nat → Nat
  | 0, i => i
  | f + 1, i => if i < s.size ∧ p (chr s i) = true then runF p s f (i + 1) else i
def run (p : Int → Bool) (s : ByteArray) (i : Nat) : Nat := runF p s (s.size - i) i

theorem run_step (p : Int → Bool) (s : ByteArray) (i : Nat) (h : i < s.size) (hp : p (chr s i) = true) : run p s i = run p s (i + 1) := by
  unfold run
  have : s.size - i = (s.size - (i + 1)) + 1 := by omega
  rw [this, runF, if_pos ⟨h, hp⟩]
theorem run_stop (p : Int → Bool) (s : ByteArray) (i : Nat) (h : i < s.size → p (chr s i) = false) : run p s i = i := by
  unfold run
  cases e : s.size - i with
  | zero => rfl
  | succ f =>
    rw [runF, if_neg]
    rintro ⟨h1, h2⟩
    rw [h h1] at h2
    cases h2
theorem runF_ge (p : Int → Bool) (s : ByteArray) : ∀ f i, i ≤ runF p s f i
  | 0, i => Nat.le_refl _
  | f + 1, i => by
    rw [runF]
    split
    · have := runF_ge p s f (i + 1); omega
    · omega
theorem runF_le (p : Int → Bool) (s : ByteArray) : ∀ f i, i ≤ s.size → runF p s f i ≤ s.size
  | 0, i, h => h
  | f + 1, i, h => by
    rw [runF]
    split
    · rename_i hh; exact runF_le p s f (i + 1) (by omega)
    · exact h
theorem run_ge (p : Int → Bool) (s : ByteArray) (i : Nat) : i ≤ run p s i := runF_ge p s _ i
theorem run_le (p : Int → Bool) (s : ByteArray) (i : Nat) (h : i ≤ s.size) : run p s i ≤ s.size := runF_le p s _ i h
def isSign (c : Int) : Bool := c == 61 || c == 40 || c == 41 || c == 44 || c == 91 || c == 93
/-- a token's kind at first sight, and where it ends. -/
def clsI (s : ByteArray) (i : Nat) : ByteArray :=
  if i < s.size then
    if lowI (chr s i) then { data := #[110, 97, 109, 101] }
    else if figI (chr s i) then { data := #[110, 117, 109] }
    else if chr s i = 45 ∧ i + 1 < s.size ∧ chr s (i + 1) = 62 then { data := #[45, 62] }
    else if isSign (chr s i) then s.extract i (i + 1)
    else { data := #[110, 111, 110, 101] }
  else { data := #[101, 110, 100] }
def clsK (s : ByteArray) (i : Nat) : Nat :=
  if i < s.size then
    if lowI (chr s i) then run lfI s i
    else if figI (chr s i) then run figI s i
    else if chr s i = 45 ∧ i + 1 < s.size ∧ chr s (i + 1) = 62 then i + 2
    else if isSign (chr s i) then i + 1
    else i
  else i
def isNN (a : ByteArray) : Bool := a.data.toList == ({ data := #[110, 97, 109, 101] } : ByteArray).data.toList || a.data.toList == ({ data := #[110, 117, 109] } : ByteArray).data.toList
/-- a long one is none. -/
def clsB (a : ByteArray) (n : Nat) : ByteArray := if (isNN a && decide (8 < n)) = true then { data := #[110, 111, 110, 101] } else a
def kwStep (x is w : ByteArray) : ByteArray := if (is.data.toList == ({ data := #[110, 97, 109, 101] } : ByteArray).data.toList && x.data.toList == w.data.toList) = true then w else is
/-- the token at a place where no blank stands, and where it ends. -/
def tok1 (s : ByteArray) (kws : List ByteArray) (i : Nat) : Tk × Nat :=
  (⟨kws.foldl (kwStep (s.extract i (clsK s i))) (clsB (clsI s i) (clsK s i - i)), s.extract i (clsK s i), i⟩, clsK s i)
def lastT (t : Tk) : Bool := t.is.data.toList == ({ data := #[110, 111, 110, 101] } : ByteArray).data.toList || t.is.data.toList == ({ data := #[101, 110, 100] } : ByteArray).data.toList
/-- all tokens, up to the first that is none. -/
def toksF (s : ByteArray) (kws : List ByteArray) : Nat → Nat → List Tk
  | 0, _ => []
  | n + 1, i => if lastT (tok1 s kws (run blI s i)).1 then [(tok1 s kws (run blI s i)).1] else (tok1 s kws (run blI s i)).1 :: toksF s kws n (tok1 s kws (run blI s i)).2
end Go.Proofs.YtleenphlgbklmabGreatDoor

namespace Go.Proofs.YtleenphlgbklmabGreatDoor

theorem kwStep_not (x a w : ByteArray) (h : (a.data.toList == ({ data := #[110, 97, 109, 101] } : ByteArray).data.toList) = false) : kwStep x a w = a := by
  unfold kwStep
  rw [h]
  simp
theorem kwFold_not (x a : ByteArray) (kws : List ByteArray) (h : (a.data.toList == ({ data := #[110, 97, 109, 101] } : ByteArray).data.toList) = false) : kws.foldl (kwStep x) a = a := by
  induction kws with
  | nil => rfl
  | cons w kws ih => rw [List.foldl_cons, kwStep_not x a w h]; exact ih
theorem clsB_not (a : ByteArray) (n : Nat) (h : isNN a = false) : clsB a n = a := by simp [clsB, h]
theorem run_gt (p : Int → Bool) (s : ByteArray) (i : Nat) (h : i < s.size) (hp : p (chr s i) = true) : i < run p s i := by
  rw [run_step p s i h hp]
  have := run_ge p s (i + 1)
  omega
/-- a token that is not the last is not empty. -/
theorem tok1_gt (s : ByteArray) (kws : List ByteArray) (i : Nat) (h : lastT (tok1 s kws i).1 = false) : i < clsK s i := by
  by_cases h0 : i < s.size
  · by_cases h1 : lowI (chr s i) = true
    · rw [clsK, if_pos h0, if_pos h1]; exact run_gt lfI s i h0 (by simp [lfI, h1])
    · by_cases h2 : figI (chr s i) = true
      · rw [clsK, if_pos h0, if_neg h1, if_pos h2]; exact run_gt figI s i h0 h2
      · by_cases h3 : chr s i = 45 ∧ i + 1 < s.size ∧ chr s (i + 1) = 62
        · rw [clsK, if_pos h0, if_neg h1, if_neg h2, if_pos h3]; omega
        · by_cases h4 : isSign (chr s i) = true
          · rw [clsK, if_pos h0, if_neg h1, if_neg h2, if_neg h3, if_pos h4]; omega
          · have e : clsI s i = { data := #[110, 111, 110, 101] } := by rw [clsI, if_pos h0, if_neg h1, if_neg h2, if_neg h3, if_neg h4]
            have : (tok1 s kws i).1.is = { data := #[110, 111, 110, 101] } := by
              simp only [tok1, e]
              rw [clsB_not _ _ (by decide)]
              exact kwFold_not _ _ _ (by decide)
            simp only [lastT, this] at h
            exact absurd h (by decide)
  · have e : clsI s i = { data := #[101, 110, 100] } := by rw [clsI, if_neg h0]
    have : (tok1 s kws i).1.is = { data := #[101, 110, 100] } := by
      simp only [tok1, e]
      rw [clsB_not _ _ (by decide)]
      exact kwFold_not _ _ _ (by decide)
    simp only [lastT, this] at h
    exact absurd h (by decide)
end Go.Proofs.YtleenphlgbklmabGreatDoor

namespace Go.Proofs.YtleenphlgbklmabGreatDoor
open Go.RowKit

/-- all that lay there is as it was, but for the blocks of S. -/
structure Kp (S : Nat → Prop) (w w' : World) : Prop where
  os : w'.os = w.os
  tape : w'.tape = w.tape
  output : w'.output = w.output
  size : w.heap.size ≤ w'.heap.size
  block : ∀ k, k < w.heap.size → ¬ S k → w'.heap[k]? = w.heap[k]?

theorem Kp.refl (S : Nat → Prop) (w : World) : Kp S w w := ⟨rfl, rfl, rfl, Nat.le_refl _, fun _ _ _ => rfl⟩
theorem Kp.trans {S : Nat → Prop} {a b c : World} (h : Kp S a b) (k : Kp S b c) : Kp S a c :=
  ⟨k.os.trans h.os, k.tape.trans h.tape, k.output.trans h.output, Nat.le_trans h.size k.size, fun q hq hs => (k.block q (Nat.lt_of_lt_of_le hq h.size) hs).trans (h.block q hq hs)⟩
theorem Kp.drew {S : Nat → Prop} {a b : World} (h : Kp S a b) : Kp S a b.drew := ⟨h.os, h.tape, h.output, h.size, h.block⟩
theorem Kp.alloc {S : Nat → Prop} {a b : World} (h : Kp S a b) (o : Obj) : Kp S a (b.alloc o) :=
  ⟨h.os, h.tape, h.output, by simp; have := h.size; omega, fun q hq hs => (Below.heap_alloc b o q (Nat.lt_of_lt_of_le hq h.size)).trans (h.block q hq hs)⟩
theorem Kp.setCell {S : Nat → Prop} {a b : World} (h : Kp S a b) (p : Addr) (v : Value) (hp : p.block < a.heap.size → S p.block) : Kp S a (b.setCell p v) :=
  ⟨h.os, h.tape, h.output, by simp; exact h.size, fun q hq hs => (Below.heap_setCell b p v q (fun e => hs (by subst e; exact hp hq))).trans (h.block q hq hs)⟩
theorem Kp.cell {S : Nat → Prop} {a b : World} (h : Kp S a b) {p : Addr} {v : Value} (hp : a.cell? p = some v) (hs : ¬ S p.block) : b.cell? p = some v :=
  (World.cell?_of_block (h.block p.block (World.block_lt_of_cell? _ _ hp) hs)).trans hp
theorem Kp.blk {S : Nat → Prop} {a b : World} (h : Kp S a b) {k : Nat} {o : Obj} (hp : a.heap[k]? = some o) (hs : ¬ S k) : b.heap[k]? = some o :=
  (h.block k (lt_of_block hp) hs).trans hp

section
variable {w w' : World} {rb tb c : Nat} {l : List Tk} {k : Nat} {bad : Int}
end
end Go.Proofs.YtleenphlgbklmabGreatDoor

namespace Go.Proofs.YtleenphlgbklmabGreatDoor
open Go.RowKit

/-- append to a row of the call's own: the new row is the old one, or a new one. -/
theorem run_append_own2 {P : Program} (w : World) (base : Nat) (t ty e : TypeId) (i : TypeInfo) (z : Value) (size bytes : Nat) (ht : P.underlying t = some (.slice e)) (hi : P.info? e = some i) (hz : i.zero = some z)
    (hsize : i.size = size) (hby : i.bytes = bytes) (hzs : z.cells.size = size) (hsz : 0 < size)
    (v : Value) (n : Nat) (xs : List Value) (hown : w.ownsRow base e size v n xs)
    (a : Addr) (m c : Nat) (news : List Value) (hl : news.length = m * size) (hnews : ∀ j u, news[j]? = some u → w.cell? (a.add j) = some u) (h1 : ∀ u ∈ news, u.oneCell' = true)
    (h63 : n + m ≤ maxLen) (hbytes : (n + m) * bytes ≤ 140737488355328) (hbase : base ≤ w.heap.size) (hm : 0 < m) :
    ∃ g cap w', (Builtin.append_ #[t, t] ty #[v, .slice (some a) m c]).run P w = .ok (.slice (some ⟨g, 0, none⟩) (n + m) cap) w' ∧ w'.ownsRow base e size (.slice (some ⟨g, 0, none⟩) (n + m) cap) (n + m) (xs ++ news) ∧ w.grownBy w' v.ownBlock ∧
      (some g = v.ownBlock ∨ w.heap.size ≤ g) := by
  obtain ⟨v', w', hr, ho, hg, hn⟩ := run_append_own (P := P) w base t ty e i z size bytes ht hi hz hsize hby hzs hsz v n xs hown a m c news hl hnews h1 h63 hbytes hbase
  rcases ho.2 with ⟨e1, e2⟩ | ⟨g, cap, cur, e1, _⟩
  · omega
  subst e1
  refine ⟨g, cap, w', hr, ho, hg, ?_⟩
  rcases hown.2 with ⟨rfl, rfl⟩ | ⟨g0, cap0, cur0, rfl, hbg, hgg, hnc, hcm, hcs, htake⟩
  · right
    obtain rfl : xs = [] := List.eq_nil_of_length_eq_zero (by simpa using hown.1)
    obtain ⟨v2, w2, hr2, ho2, _, _⟩ := run_append_own (P := P) w w.heap.size t ty e i z size bytes ht hi hz hsize hby hzs hsz (.slice none 0 0) 0 [] (World.ownsRow_nil w _ e size) a m c news hl hnews h1 h63 hbytes (Nat.le_refl _)
    rw [hr] at hr2
    injection hr2 with q1 q2
    subst q1
    exact (ho2.lt g rfl).1
  · by_cases hroom : n + m ≤ cap0
    · left
      subst hsize
      have hfit : n * i.size + news.length ≤ cur0.size := by rw [hl, hcs, ← Nat.add_mul]; exact Nat.mul_le_mul_right _ hroom
      have hr2 := run_append_room (P := P) w t ty e i ht hi g0 n cap0 cur0 hgg a m c news hl hnews h1 hroom hfit
      rw [hr] at hr2
      injection hr2 with q1 q2
      injection q1 with q3
      injection q3 with q4
      injection q4 with q5
      simp [Value.ownBlock, q5]
    · right
      obtain ⟨v2, w2, hr2, r1, _⟩ := run_append_arg_grows (P := P) w t ty e i z size bytes ht hi hz hsize hby hzs hsz ⟨g0, 0, none⟩ n cap0 xs hown.1 (hown.cells (g := g0) rfl) a m c news hl hnews (by omega) h63 hbytes
      rw [hr] at hr2
      injection hr2 with q1 q2
      subst q1
      exact (r1.lt g rfl).1

/-- the same, as one step of a region that draws its order. -/
theorem step_append_own2 {P : Program} {ops : Array Oper} {o : Oper} {a : Act} {w : World} {K : Act → World → Prop} {Q : Exit → Act → World → Prop} {E : Prop}
    (hg : o.guard = none) (s x : Operand) (t : TypeId) (hop : o.op = Op.call { callee := Callee.builtin Builtin.append, args := #[s, x], argTypes := #[t, t] })
    (base : Nat) (e : TypeId) (i : TypeInfo) (z : Value) (size bytes : Nat) (ht : P.underlying t = some (.slice e)) (hi : P.info? e = some i) (hz : i.zero = some z)
    (hsize : i.size = size) (hby : i.bytes = bytes) (hzs : z.cells.size = size) (hsz : 0 < size)
    (v : Value) (n : Nat) (xs : List Value) (hs : a.eval s = v) (hown : w.ownsRow base e size v n xs)
    (ad : Addr) (m c : Nat) (news : List Value) (hx : a.eval x = .slice (some ad) m c) (hl : news.length = m * size) (hnews : ∀ j u, news[j]? = some u → w.cell? (ad.add j) = some u) (h1 : ∀ u ∈ news, u.oneCell' = true)
    (h63 : n + m ≤ maxLen) (hbytes : (n + m) * bytes ≤ 140737488355328) (hbase : base ≤ w.heap.size) (hm : 0 < m)
    (hK : ∀ g cap w', w'.ownsRow base e size (.slice (some ⟨g, 0, none⟩) (n + m) cap) (n + m) (xs ++ news) → w.grownBy w' v.ownBlock → (some g = v.ownBlock ∨ w.heap.size ≤ g) → K (a.put o.dst (.slice (some ⟨g, 0, none⟩) (n + m) cap)) w') :
    if Region.wanted o (yielded ops a.tmps) = true then Oper.wp P o a w K Q else E := by
  have hw : Region.wanted o (yielded ops a.tmps) = true := by simp [Region.wanted, hg]
  rw [if_pos hw]
  obtain ⟨g, cap, w', hrun, r1, r2, r3⟩ := run_append_own2 (P := P) w base t o.type e i z size bytes ht hi hz hsize hby hzs hsz v n xs hown ad m c news hl hnews h1 h63 hbytes hbase hm
  unfold Oper.wp
  simp only [execOp, hop, resolve, invoke, builtin, Sem.run_bind, Sem.run_pure, Result.andThen_ok, List.map_toArray, List.map_cons, List.map_nil, hs, hx, hrun]
  exact hK g cap w' r1 r2 r3

theorem wpList_append_own2 {P : Program} (w : World) {ops : Array Oper} {rest : List Oper} {o : Oper} {a : Act} {Q : Exit → Act → World → Prop} (hgd : o.guard = none) (s x : Operand) (t : TypeId)
    (ho : o.op = .call { callee := .builtin .append, args := #[s, x], argTypes := #[t, t] })
    (base : Nat) (e : TypeId) (i : TypeInfo) (z : Value) (size bytes : Nat) (ht : P.underlying t = some (.slice e)) (hi : P.info? e = some i) (hz : i.zero = some z)
    (hsize : i.size = size) (hby : i.bytes = bytes) (hzs : z.cells.size = size) (hsz : 0 < size)
    (v : Value) (n : Nat) (xs : List Value) (hs : a.eval s = v) (hown : w.ownsRow base e size v n xs)
    (ad : Addr) (m c : Nat) (news : List Value) (hx : a.eval x = .slice (some ad) m c) (hl : news.length = m * size) (hnews : ∀ j u, news[j]? = some u → w.cell? (ad.add j) = some u) (h1 : ∀ u ∈ news, u.oneCell' = true)
    (h63 : n + m ≤ maxLen) (hbytes : (n + m) * bytes ≤ 140737488355328) (hbase : base ≤ w.heap.size) (hm : 0 < m)
    (h : ∀ g cap w', w'.ownsRow base e size (.slice (some ⟨g, 0, none⟩) (n + m) cap) (n + m) (xs ++ news) → w.grownBy w' v.ownBlock → (some g = v.ownBlock ∨ w.heap.size ≤ g) → wpList P ops Q rest (a.put o.dst (.slice (some ⟨g, 0, none⟩) (n + m) cap)) w') : wpList P ops Q (o :: rest) a w := by
  refine wpList_plain hgd fun K hK => ?_
  obtain ⟨g, cap, w', hrun, r1, r2, r3⟩ := run_append_own2 (P := P) w base t o.type e i z size bytes ht hi hz hsize hby hzs hsz v n xs hown ad m c news hl hnews h1 h63 hbytes hbase hm
  unfold Oper.wp execOp
  simp only [ho, resolve, invoke, builtin, Sem.run_bind, Sem.run_pure, Result.andThen_ok, List.map_toArray, List.map_cons, List.map_nil, hs, hx, hrun]
  exact hK _ _ (h g cap w' r1 r2 r3)
end Go.Proofs.YtleenphlgbklmabGreatDoor

namespace Go.Proofs.YtleenphlgbklmabGreatDoor
open Go.RowKit

/-- an expression of the document's reader. -/
inductive X where
  | mk (op : ByteArray) (names : List ByteArray) (kids : List X) (loc : Nat)
def X.loc : X → Nat | .mk _ _ _ a => a
def X.op : X → ByteArray | .mk o _ _ _ => o


theorem ownsRow_base {w : World} {b b' : Nat} {e : TypeId} {z : Nat} {v : Value} {n : Nat} {xs : List Value} (h : w.ownsRow b e z v n xs) (hb : b' ≤ b) : w.ownsRow b' e z v n xs := by
  refine ⟨h.1, ?_⟩
  rcases h.2 with h | ⟨g, cap, cur, h1, h2, h3⟩
  · exact .inl h
  · exact .inr ⟨g, cap, cur, h1, by omega, h3⟩
theorem ownsRow_same {w w' : World} {b : Nat} {e : TypeId} {z : Nat} {v : Value} {n : Nat} {xs : List Value} (h : w.ownsRow b e z v n xs) (hs : ∀ k, v.ownBlock = some k → w'.heap[k]? = w.heap[k]?) : w'.ownsRow b e z v n xs := by
  refine ⟨h.1, ?_⟩
  rcases h.2 with h | ⟨g, cap, cur, h1, h2, h3, h4⟩
  · exact .inl h
  · subst h1
    exact .inr ⟨g, cap, cur, rfl, h2, (hs g rfl).trans h3, h4⟩

section
variable {w w' : World} {B xb : Nat} {op : ByteArray} {names : List ByteArray} {kids : List X} {loc : Nat} {nv lv : Value} {ps : List Value} {fk : List Nat}

end


section
variable {w w' : World} {B xb rb : Nat} {op : ByteArray} {names : List ByteArray} {kids : List X} {loc : Nat} {nv lv : Value} {ps : List Value} {fk : List Nat}

end
end Go.Proofs.YtleenphlgbklmabGreatDoor
