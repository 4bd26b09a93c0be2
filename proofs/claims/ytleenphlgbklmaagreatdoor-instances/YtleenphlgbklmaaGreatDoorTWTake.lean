import Derived.Test.YtleenphlgbklmaaGreatDoorProg
import Derived.WalkKit
import Derived.Deep.QuietTactic
import Derived.BigQuiet
import Derived.WalkSmall
import Derived.Laws.OwnMore
import Derived.Deep.RegionLawGrows
import Derived.Deep.RegionWith
set_option linter.unusedVariables false
set_option linter.unusedSimpArgs false
namespace Go.Proofs.YtleenphlgbklmaaGreatDoor

/-- a token of the document's reader. -/
structure Tk where
  is : ByteArray
  s : ByteArray
  loc : Nat

def Tk.no : Tk := ⟨{ data := #[] }, { data := #[] }, 0⟩
def tkAt (l : List Tk) (k : Nat) : Tk := l.getD k Tk.no

/-- does the next token bear that kind? -/
def isM (l : List Tk) (w : ByteArray) (k : Nat) (bad : Int) : Bool := decide (bad < 0) && ((tkAt l k).is.data.toList == w.data.toList)
/-- behind take: the place. -/
def takeK (l : List Tk) (w : ByteArray) (k : Nat) (bad : Int) : Nat := if isM l w k bad then k + 1 else k
/-- behind need: the fault. -/
def needB (l : List Tk) (w : ByteArray) (k : Nat) (bad : Int) : Int := if !isM l w k bad && decide (bad < 0) then ((tkAt l k).loc : Int) else bad
/-- behind the look for a name that stands there already. -/
def dupB (names : List ByteArray) (s : ByteArray) (loc : Nat) (bad : Int) : Int := if names.any (fun m => m.data.toList == s.data.toList) && decide (bad < 0) then (loc : Int) else bad
end Go.Proofs.YtleenphlgbklmaaGreatDoor

namespace Go.Proofs.YtleenphlgbklmaaGreatDoor

/-- the byte at a place. -/
def chr (s : ByteArray) (i : Nat) : Int := if h : i < s.size then ((s[i]'h).toNat : Int) else 0
theorem chr_eq (s : ByteArray) (i : Nat) (h : i < s.size) : ((s[i]'h).toNat : Int) = chr s i := by simp [chr, h]
theorem chr_range (s : ByteArray) (i : Nat) : 0 ≤ chr s i ∧ chr s i ≤ 255 := by
  unfold chr
  split
  · rename_i h
    have := (s[i]'h).toNat_lt
    omega
  · omega

def lowI (c : Int) : Bool := decide (97 ≤ c) && decide (c ≤ 122)
def figI (c : Int) : Bool := decide (48 ≤ c) && decide (c ≤ 57)
def lfI (c : Int) : Bool := lowI c || figI c
def blI (c : Int) : Bool := (c == 32) || (c == 10)

/-- from a place on, over all bytes of a kind. -/
def runF (p : Int → Bool) (s : ByteArray) : Nat → Nat → Nat
  | 0, i => i
  | f + 1, i => if i < s.size ∧ p (chr s i) = true then runF p s f (i + 1) else i
def run (p : Int → Bool) (s : ByteArray) (i : Nat) : Nat := runF p s (s.size - i) i

theorem run_step (p : Int → Bool) (s : ByteArray) (i : Nat) (h : i < s.size) (hp : p (chr s i) = true) : run p s i = run p s (i + 1) := by
  unfold run
  have : s.size - i = (s.size - (i + 1)) + 1 := by omega
  rw [this, runF, if_pos ⟨h, hp⟩]
theorem run_stop (p : Int → Bool) (s : ByteArray) (i : Nat) (h : i < s.size → p (chr s i) = false) : run p s i = i := by
  unfold run
  cases e : s.size - i with
  | zero => rfl
  | succ f =>
    rw [runF, if_neg]
    rintro ⟨h1, h2⟩
    rw [h h1] at h2
    cases h2
theorem runF_ge (p : Int → Bool) (s : ByteArray) : ∀ f i, i ≤ runF p s f i
  | 0, i => Nat.le_refl _
  | f + 1, i => by
    rw [runF]
    split
    · have := runF_ge p s f (i + 1); omega
    · omega
theorem runF_le (p : Int → Bool) (s : ByteArray) : ∀ f i, i ≤ s.size → runF p s f i ≤ s.size
  | 0, i, h => h
  | f + 1, i, h => by
    rw [runF]
    split
    · rename_i hh; exact runF_le p s f (i + 1) (by omega)
    · exact h
theorem run_ge (p : Int → Bool) (s : ByteArray) (i : Nat) : i ≤ run p s i := runF_ge p s _ i
theorem run_le (p : Int → Bool) (s : ByteArray) (i : Nat) (h : i ≤ s.size) : run p s i ≤ s.size := runF_le p s _ i h
/-- at its end no byte of the kind stands. -/
theorem run_end (p : Int → Bool) (s : ByteArray) (i : Nat) (h : i ≤ s.size) : run p s i < s.size → p (chr s (run p s i)) = false := by
  have : ∀ n i, s.size - i = n → i ≤ s.size → run p s i < s.size → p (chr s (run p s i)) = false := by
    intro n
    induction n with
    | zero =>
      intro i hn hi hlt
      have := run_ge p s i
      omega
    | succ n ih =>
      intro i hn hi hlt
      by_cases hp : p (chr s i) = true
      · rw [run_step p s i (by omega) hp] at hlt ⊢
        exact ih (i + 1) (by omega) (by omega) hlt
      · have e : run p s i = i := run_stop p s i (fun _ => by simpa using hp)
        rw [e]
        simpa using hp
  exact this _ i rfl h

def isSign (c : Int) : Bool := c == 61 || c == 40 || c == 41 || c == 44 || c == 91 || c == 93
/-- a token's kind at first sight, and where it ends. -/
def clsI (s : ByteArray) (i : Nat) : ByteArray :=
  if i < s.size then
    if lowI (chr s i) then { data := #[110, 97, 109, 101] }
    else if figI (chr s i) then { data := #[110, 117, 109] }
    else if chr s i = 45 ∧ i + 1 < s.size ∧ chr s (i + 1) = 62 then { data := #[45, 62] }
    else if isSign (chr s i) then s.extract i (i + 1)
    else { data := #[110, 111, 110, 101] }
  else { data := #[101, 110, 100] }
def clsK (s : ByteArray) (i : Nat) : Nat :=
  if i < s.size then
    if lowI (chr s i) then run lfI s i
    else if figI (chr s i) then run figI s i
    else if chr s i = 45 ∧ i + 1 < s.size ∧ chr s (i + 1) = 62 then i + 2
    else if isSign (chr s i) then i + 1
    else i
  else i
def isNN (a : ByteArray) : Bool := a.data.toList == ({ data := #[110, 97, 109, 101] } : ByteArray).data.toList || a.data.toList == ({ data := #[110, 117, 109] } : ByteArray).data.toList
/-- a long one is none. -/
def clsB (a : ByteArray) (n : Nat) : ByteArray := if (isNN a && decide (8 < n)) = true then { data := #[110, 111, 110, 101] } else a
def kwStep (x is w : ByteArray) : ByteArray := if (is.data.toList == ({ data := #[110, 97, 109, 101] } : ByteArray).data.toList && x.data.toList == w.data.toList) = true then w else is
/-- the token at a place where no blank stands, and where it ends. -/
def tok1 (s : ByteArray) (kws : List ByteArray) (i : Nat) : Tk × Nat :=
  (⟨kws.foldl (kwStep (s.extract i (clsK s i))) (clsB (clsI s i) (clsK s i - i)), s.extract i (clsK s i), i⟩, clsK s i)
def lastT (t : Tk) : Bool := t.is.data.toList == ({ data := #[110, 111, 110, 101] } : ByteArray).data.toList || t.is.data.toList == ({ data := #[101, 110, 100] } : ByteArray).data.toList
/-- all tokens, up to the first that is none. -/
def toksF (s : ByteArray) (kws : List ByteArray) : Nat → Nat → List Tk
  | 0, _ => []
  | n + 1, i => if lastT (tok1 s kws (run blI s i)).1 then [(tok1 s kws (run blI s i)).1] else (tok1 s kws (run blI s i)).1 :: toksF s kws n (tok1 s kws (run blI s i)).2
end Go.Proofs.YtleenphlgbklmaaGreatDoor

namespace Go.Proofs.YtleenphlgbklmaaGreatDoor

theorem kwStep_not (x a w : ByteArray) (h : (a.data.toList == ({ data := #[110, 97, 109, 101] } : ByteArray).data.toList) = false) : kwStep x a w = a := by
  unfold kwStep
  rw [h]
  simp
theorem kwFold_not (x a : ByteArray) (kws : List ByteArray) (h : (a.data.toList == ({ data := #[110, 97, 109, 101] } : ByteArray).data.toList) = false) : kws.foldl (kwStep x) a = a := by
  induction kws with
  | nil => rfl
  | cons w kws ih => rw [List.foldl_cons, kwStep_not x a w h]; exact ih
theorem clsB_not (a : ByteArray) (n : Nat) (h : isNN a = false) : clsB a n = a := by simp [clsB, h]
theorem run_gt (p : Int → Bool) (s : ByteArray) (i : Nat) (h : i < s.size) (hp : p (chr s i) = true) : i < run p s i := by
  rw [run_step p s i h hp]
  have := run_ge p s (i + 1)
  omega
/-- a token that is not the last is not empty. -/
theorem tok1_gt (s : ByteArray) (kws : List ByteArray) (i : Nat) (h : lastT (tok1 s kws i).1 = false) : i < clsK s i := by
  by_cases h0 : i < s.size
  · by_cases h1 : lowI (chr s i) = true
    · rw [clsK, if_pos h0, if_pos h1]; exact run_gt lfI s i h0 (by simp [lfI, h1])
    · by_cases h2 : figI (chr s i) = true
      · rw [clsK, if_pos h0, if_neg h1, if_pos h2]; exact run_gt figI s i h0 h2
      · by_cases h3 : chr s i = 45 ∧ i + 1 < s.size ∧ chr s (i + 1) = 62
        · rw [clsK, if_pos h0, if_neg h1, if_neg h2, if_pos h3]; omega
        · by_cases h4 : isSign (chr s i) = true
          · rw [clsK, if_pos h0, if_neg h1, if_neg h2, if_neg h3, if_pos h4]; omega
          · have e : clsI s i = { data := #[110, 111, 110, 101] } := by rw [clsI, if_pos h0, if_neg h1, if_neg h2, if_neg h3, if_neg h4]
            have : (tok1 s kws i).1.is = { data := #[110, 111, 110, 101] } := by
              simp only [tok1, e]
              rw [clsB_not _ _ (by decide)]
              exact kwFold_not _ _ _ (by decide)
            simp only [lastT, this] at h
            exact absurd h (by decide)
  · have e : clsI s i = { data := #[101, 110, 100] } := by rw [clsI, if_neg h0]
    have : (tok1 s kws i).1.is = { data := #[101, 110, 100] } := by
      simp only [tok1, e]
      rw [clsB_not _ _ (by decide)]
      exact kwFold_not _ _ _ (by decide)
    simp only [lastT, this] at h
    exact absurd h (by decide)
end Go.Proofs.YtleenphlgbklmaaGreatDoor

namespace Go.Proofs.YtleenphlgbklmaaGreatDoor
open Go.RowKit

/-- the reader lies at block rb, its tokens at block tb. -/
structure Rd (w : World) (rb tb c : Nat) (l : List Tk) (k : Nat) (bad : Int) : Prop where
  rd : w.heap[rb]? = some (.cells #[.slice (some ⟨tb, 0, none⟩) l.length c, .int .i64 k, .int .i64 bad] 81 (0, 0))
  tk : ∀ i, i < l.length → w.cell? ⟨tb, i * 3, none⟩ = some (.string (tkAt l i).is) ∧ w.cell? ⟨tb, i * 3 + 1, none⟩ = some (.string (tkAt l i).s) ∧ w.cell? ⟨tb, i * 3 + 2, none⟩ = some (.int .i64 (tkAt l i).loc)
  ne : tb ≠ rb

theorem Rd.c0 {w : World} {rb tb c : Nat} {l : List Tk} {k : Nat} {bad : Int} (h : Rd w rb tb c l k bad) : w.cell? ⟨rb, 0, none⟩ = some (.slice (some ⟨tb, 0, none⟩) l.length c) := by simp [World.cell?, h.rd]
theorem Rd.c1 {w : World} {rb tb c : Nat} {l : List Tk} {k : Nat} {bad : Int} (h : Rd w rb tb c l k bad) : w.cell? ⟨rb, 1, none⟩ = some (.int .i64 k) := by simp [World.cell?, h.rd]
theorem Rd.c2 {w : World} {rb tb c : Nat} {l : List Tk} {k : Nat} {bad : Int} (h : Rd w rb tb c l k bad) : w.cell? ⟨rb, 2, none⟩ = some (.int .i64 bad) := by simp [World.cell?, h.rd]
theorem Rd.fz {w : World} {rb tb c : Nat} {l : List Tk} {k : Nat} {bad : Int} (h : Rd w rb tb c l k bad) (i : Nat) : w.frozen? ⟨rb, i, none⟩ = false := by simp [World.frozen?, h.rd]

/-- all that lay there is as it was, but for the blocks of S. -/
structure Kp (S : Nat → Prop) (w w' : World) : Prop where
  os : w'.os = w.os
  tape : w'.tape = w.tape
  output : w'.output = w.output
  size : w.heap.size ≤ w'.heap.size
  block : ∀ k, k < w.heap.size → ¬ S k → w'.heap[k]? = w.heap[k]?

theorem Kp.refl (S : Nat → Prop) (w : World) : Kp S w w := ⟨rfl, rfl, rfl, Nat.le_refl _, fun _ _ _ => rfl⟩
theorem Kp.trans {S : Nat → Prop} {a b c : World} (h : Kp S a b) (k : Kp S b c) : Kp S a c :=
  ⟨k.os.trans h.os, k.tape.trans h.tape, k.output.trans h.output, Nat.le_trans h.size k.size, fun q hq hs => (k.block q (Nat.lt_of_lt_of_le hq h.size) hs).trans (h.block q hq hs)⟩
theorem Kp.mono {S S' : Nat → Prop} {a b : World} (h : Kp S a b) (hs : ∀ k, k < a.heap.size → S k → S' k) : Kp S' a b :=
  ⟨h.os, h.tape, h.output, h.size, fun q hq hn => h.block q hq (fun x => hn (hs q hq x))⟩
theorem Kp.drewN {S : Nat → Prop} {a b : World} (h : Kp S a b) (n : Nat) : Kp S a (b.drewN n) := ⟨h.os, h.tape, h.output, h.size, h.block⟩
theorem Kp.drew {S : Nat → Prop} {a b : World} (h : Kp S a b) : Kp S a b.drew := ⟨h.os, h.tape, h.output, h.size, h.block⟩
theorem Kp.alloc {S : Nat → Prop} {a b : World} (h : Kp S a b) (o : Obj) : Kp S a (b.alloc o) :=
  ⟨h.os, h.tape, h.output, by simp; have := h.size; omega, fun q hq hs => (Below.heap_alloc b o q (Nat.lt_of_lt_of_le hq h.size)).trans (h.block q hq hs)⟩
theorem Kp.setCell {S : Nat → Prop} {a b : World} (h : Kp S a b) (p : Addr) (v : Value) (hp : p.block < a.heap.size → S p.block) : Kp S a (b.setCell p v) :=
  ⟨h.os, h.tape, h.output, by simp; exact h.size, fun q hq hs => (Below.heap_setCell b p v q (fun e => hs (by subst e; exact hp hq))).trans (h.block q hq hs)⟩
theorem Kp.grown {S : Nat → Prop} {a b c : World} {row : Option Nat} (h : Kp S a b) (g : b.grownBy c row) (hr : ∀ k, row = some k → k < a.heap.size → S k) : Kp S a c :=
  ⟨g.os.trans h.os, g.tape.trans h.tape, g.output.trans h.output, Nat.le_trans h.size g.size, fun q hq hs => (g.block q (Nat.lt_of_lt_of_le hq h.size) (fun e => hs (hr q e.symm hq))).trans (h.block q hq hs)⟩
theorem Kp.cell {S : Nat → Prop} {a b : World} (h : Kp S a b) {p : Addr} {v : Value} (hp : a.cell? p = some v) (hs : ¬ S p.block) : b.cell? p = some v :=
  (World.cell?_of_block (h.block p.block (World.block_lt_of_cell? _ _ hp) hs)).trans hp
theorem Kp.blk {S : Nat → Prop} {a b : World} (h : Kp S a b) {k : Nat} {o : Obj} (hp : a.heap[k]? = some o) (hs : ¬ S k) : b.heap[k]? = some o :=
  (h.block k (lt_of_block hp) hs).trans hp

section
variable {w w' : World} {rb tb c : Nat} {l : List Tk} {k : Nat} {bad : Int}
theorem Rd.lt (h : Rd w rb tb c l k bad) : rb < w.heap.size := lt_of_block h.rd
theorem Rd.kp {S : Nat → Prop} (h : Rd w rb tb c l k bad) (g : Kp S w w') (h1 : ¬ S rb) (h2 : ¬ S tb) : Rd w' rb tb c l k bad :=
  ⟨g.blk h.rd h1, fun i hi => ⟨g.cell (h.tk i hi).1 h2, g.cell (h.tk i hi).2.1 h2, g.cell (h.tk i hi).2.2 h2⟩, h.ne⟩
theorem Rd.drewN (h : Rd w rb tb c l k bad) (n : Nat) : Rd (w.drewN n) rb tb c l k bad := ⟨h.rd, h.tk, h.ne⟩
theorem Rd.drew (h : Rd w rb tb c l k bad) : Rd w.drew rb tb c l k bad := ⟨h.rd, h.tk, h.ne⟩
theorem Rd.alloc (h : Rd w rb tb c l k bad) (o : Obj) : Rd (w.alloc o) rb tb c l k bad := h.kp (S := fun _ => False) ((Kp.refl _ w).alloc o) id id
theorem Rd.setK (h : Rd w rb tb c l k bad) (k' : Nat) : Rd (w.setCell ⟨rb, 1, none⟩ (.int .i64 k')) rb tb c l k' bad := by
  refine ⟨?_, ?_, h.ne⟩
  · simp [World.setCell, h.rd, Array.getElem?_modify]
  · intro i hi
    have hn : ∀ o, (⟨rb, 1, none⟩ : Addr) ≠ ⟨tb, o, none⟩ := fun o e => h.ne (by injection e with e1; exact e1.symm)
    rw [World.cell?_setCell_other _ _ _ _ (hn _), World.cell?_setCell_other _ _ _ _ (hn _), World.cell?_setCell_other _ _ _ _ (hn _)]
    exact h.tk i hi
theorem Rd.setB (h : Rd w rb tb c l k bad) (b' : Int) : Rd (w.setCell ⟨rb, 2, none⟩ (.int .i64 b')) rb tb c l k b' := by
  refine ⟨?_, ?_, h.ne⟩
  · simp [World.setCell, h.rd, Array.getElem?_modify]
  · intro i hi
    have hn : ∀ o, (⟨rb, 2, none⟩ : Addr) ≠ ⟨tb, o, none⟩ := fun o e => h.ne (by injection e with e1; exact e1.symm)
    rw [World.cell?_setCell_other _ _ _ _ (hn _), World.cell?_setCell_other _ _ _ _ (hn _), World.cell?_setCell_other _ _ _ _ (hn _)]
    exact h.tk i hi
end
end Go.Proofs.YtleenphlgbklmaaGreatDoor

namespace Go.Proofs.YtleenphlgbklmaaGreatDoor
open Go.RowKit

/-- append to a row of the call's own: the new row is the old one, or a new one. -/
theorem run_append_own2 {P : Program} (w : World) (base : Nat) (t ty e : TypeId) (i : TypeInfo) (z : Value) (size bytes : Nat) (ht : P.underlying t = some (.slice e)) (hi : P.info? e = some i) (hz : i.zero = some z)
    (hsize : i.size = size) (hby : i.bytes = bytes) (hzs : z.cells.size = size) (hsz : 0 < size)
    (v : Value) (n : Nat) (xs : List Value) (hown : w.ownsRow base e size v n xs)
    (a : Addr) (m c : Nat) (news : List Value) (hl : news.length = m * size) (hnews : ∀ j u, news[j]? = some u → w.cell? (a.add j) = some u) (h1 : ∀ u ∈ news, u.oneCell' = true)
    (h63 : n + m ≤ maxLen) (hbytes : (n + m) * bytes ≤ 140737488355328) (hbase : base ≤ w.heap.size) (hm : 0 < m) :
    ∃ g cap w', (Builtin.append_ #[t, t] ty #[v, .slice (some a) m c]).run P w = .ok (.slice (some ⟨g, 0, none⟩) (n + m) cap) w' ∧ w'.ownsRow base e size (.slice (some ⟨g, 0, none⟩) (n + m) cap) (n + m) (xs ++ news) ∧ w.grownBy w' v.ownBlock ∧
      (some g = v.ownBlock ∨ w.heap.size ≤ g) := by
  obtain ⟨v', w', hr, ho, hg, hn⟩ := run_append_own (P := P) w base t ty e i z size bytes ht hi hz hsize hby hzs hsz v n xs hown a m c news hl hnews h1 h63 hbytes hbase
  rcases ho.2 with ⟨e1, e2⟩ | ⟨g, cap, cur, e1, _⟩
  · omega
  subst e1
  refine ⟨g, cap, w', hr, ho, hg, ?_⟩
  rcases hown.2 with ⟨rfl, rfl⟩ | ⟨g0, cap0, cur0, rfl, hbg, hgg, hnc, hcm, hcs, htake⟩
  · right
    obtain rfl : xs = [] := List.eq_nil_of_length_eq_zero (by simpa using hown.1)
    obtain ⟨v2, w2, hr2, ho2, _, _⟩ := run_append_own (P := P) w w.heap.size t ty e i z size bytes ht hi hz hsize hby hzs hsz (.slice none 0 0) 0 [] (World.ownsRow_nil w _ e size) a m c news hl hnews h1 h63 hbytes (Nat.le_refl _)
    rw [hr] at hr2
    injection hr2 with q1 q2
    subst q1
    exact (ho2.lt g rfl).1
  · by_cases hroom : n + m ≤ cap0
    · left
      subst hsize
      have hfit : n * i.size + news.length ≤ cur0.size := by rw [hl, hcs, ← Nat.add_mul]; exact Nat.mul_le_mul_right _ hroom
      have hr2 := run_append_room (P := P) w t ty e i ht hi g0 n cap0 cur0 hgg a m c news hl hnews h1 hroom hfit
      rw [hr] at hr2
      injection hr2 with q1 q2
      injection q1 with q3
      injection q3 with q4
      injection q4 with q5
      simp [Value.ownBlock, q5]
    · right
      obtain ⟨v2, w2, hr2, r1, _⟩ := run_append_arg_grows (P := P) w t ty e i z size bytes ht hi hz hsize hby hzs hsz ⟨g0, 0, none⟩ n cap0 xs hown.1 (hown.cells (g := g0) rfl) a m c news hl hnews (by omega) h63 hbytes
      rw [hr] at hr2
      injection hr2 with q1 q2
      subst q1
      exact (r1.lt g rfl).1

/-- the same, as one step of a region that draws its order. -/
theorem step_append_own2 {P : Program} {ops : Array Oper} {o : Oper} {a : Act} {w : World} {K : Act → World → Prop} {Q : Exit → Act → World → Prop} {E : Prop}
    (hg : o.guard = none) (s x : Operand) (t : TypeId) (hop : o.op = Op.call { callee := Callee.builtin Builtin.append, args := #[s, x], argTypes := #[t, t] })
    (base : Nat) (e : TypeId) (i : TypeInfo) (z : Value) (size bytes : Nat) (ht : P.underlying t = some (.slice e)) (hi : P.info? e = some i) (hz : i.zero = some z)
    (hsize : i.size = size) (hby : i.bytes = bytes) (hzs : z.cells.size = size) (hsz : 0 < size)
    (v : Value) (n : Nat) (xs : List Value) (hs : a.eval s = v) (hown : w.ownsRow base e size v n xs)
    (ad : Addr) (m c : Nat) (news : List Value) (hx : a.eval x = .slice (some ad) m c) (hl : news.length = m * size) (hnews : ∀ j u, news[j]? = some u → w.cell? (ad.add j) = some u) (h1 : ∀ u ∈ news, u.oneCell' = true)
    (h63 : n + m ≤ maxLen) (hbytes : (n + m) * bytes ≤ 140737488355328) (hbase : base ≤ w.heap.size) (hm : 0 < m)
    (hK : ∀ g cap w', w'.ownsRow base e size (.slice (some ⟨g, 0, none⟩) (n + m) cap) (n + m) (xs ++ news) → w.grownBy w' v.ownBlock → (some g = v.ownBlock ∨ w.heap.size ≤ g) → K (a.put o.dst (.slice (some ⟨g, 0, none⟩) (n + m) cap)) w') :
    if Region.wanted o (yielded ops a.tmps) = true then Oper.wp P o a w K Q else E := by
  have hw : Region.wanted o (yielded ops a.tmps) = true := by simp [Region.wanted, hg]
  rw [if_pos hw]
  obtain ⟨g, cap, w', hrun, r1, r2, r3⟩ := run_append_own2 (P := P) w base t o.type e i z size bytes ht hi hz hsize hby hzs hsz v n xs hown ad m c news hl hnews h1 h63 hbytes hbase hm
  unfold Oper.wp
  simp only [execOp, hop, resolve, invoke, builtin, Sem.run_bind, Sem.run_pure, Result.andThen_ok, List.map_toArray, List.map_cons, List.map_nil, hs, hx, hrun]
  exact hK g cap w' r1 r2 r3

theorem wpList_append_own2 {P : Program} (w : World) {ops : Array Oper} {rest : List Oper} {o : Oper} {a : Act} {Q : Exit → Act → World → Prop} (hgd : o.guard = none) (s x : Operand) (t : TypeId)
    (ho : o.op = .call { callee := .builtin .append, args := #[s, x], argTypes := #[t, t] })
    (base : Nat) (e : TypeId) (i : TypeInfo) (z : Value) (size bytes : Nat) (ht : P.underlying t = some (.slice e)) (hi : P.info? e = some i) (hz : i.zero = some z)
    (hsize : i.size = size) (hby : i.bytes = bytes) (hzs : z.cells.size = size) (hsz : 0 < size)
    (v : Value) (n : Nat) (xs : List Value) (hs : a.eval s = v) (hown : w.ownsRow base e size v n xs)
    (ad : Addr) (m c : Nat) (news : List Value) (hx : a.eval x = .slice (some ad) m c) (hl : news.length = m * size) (hnews : ∀ j u, news[j]? = some u → w.cell? (ad.add j) = some u) (h1 : ∀ u ∈ news, u.oneCell' = true)
    (h63 : n + m ≤ maxLen) (hbytes : (n + m) * bytes ≤ 140737488355328) (hbase : base ≤ w.heap.size) (hm : 0 < m)
    (h : ∀ g cap w', w'.ownsRow base e size (.slice (some ⟨g, 0, none⟩) (n + m) cap) (n + m) (xs ++ news) → w.grownBy w' v.ownBlock → (some g = v.ownBlock ∨ w.heap.size ≤ g) → wpList P ops Q rest (a.put o.dst (.slice (some ⟨g, 0, none⟩) (n + m) cap)) w') : wpList P ops Q (o :: rest) a w := by
  refine wpList_plain hgd fun K hK => ?_
  obtain ⟨g, cap, w', hrun, r1, r2, r3⟩ := run_append_own2 (P := P) w base t o.type e i z size bytes ht hi hz hsize hby hzs hsz v n xs hown ad m c news hl hnews h1 h63 hbytes hbase hm
  unfold Oper.wp execOp
  simp only [ho, resolve, invoke, builtin, Sem.run_bind, Sem.run_pure, Result.andThen_ok, List.map_toArray, List.map_cons, List.map_nil, hs, hx, hrun]
  exact hK _ _ (h g cap w' r1 r2 r3)
end Go.Proofs.YtleenphlgbklmaaGreatDoor

namespace Go.Proofs.YtleenphlgbklmaaGreatDoor
open Go.RowKit

/-- an expression of the document's reader. -/
inductive X where
  | mk (op : ByteArray) (names : List ByteArray) (kids : List X) (loc : Nat)
def X.loc : X → Nat | .mk _ _ _ a => a
def X.op : X → ByteArray | .mk o _ _ _ => o

mutual
/-- the value v leads to that expression; fs: the blocks that it lies in. -/
def Rep (w : World) : X → Value → List Nat → Prop
  | .mk op names kids loc, v, fs => ∃ b nv lv ps fk, v = .pointer (some ⟨b, 0, none⟩) ∧ w.heap[b]? = some (.cells #[.string op, nv, lv, .int .i64 loc] 87 (0, 0)) ∧
      w.ownsRow 0 9 1 nv names.length (names.map Value.string) ∧ w.ownsRow 0 26 1 lv ps.length ps ∧ Reps w kids ps fk ∧ fs = b :: (nv.ownBlock.toList ++ lv.ownBlock.toList ++ fk)
def Reps (w : World) : List X → List Value → List Nat → Prop
  | [], ps, fs => ps = [] ∧ fs = []
  | x :: xs, ps, fs => ∃ p qs f1 f2, ps = p :: qs ∧ Rep w x p f1 ∧ Reps w xs qs f2 ∧ fs = f1 ++ f2
end

theorem ownsRow_base {w : World} {b b' : Nat} {e : TypeId} {z : Nat} {v : Value} {n : Nat} {xs : List Value} (h : w.ownsRow b e z v n xs) (hb : b' ≤ b) : w.ownsRow b' e z v n xs := by
  refine ⟨h.1, ?_⟩
  rcases h.2 with h | ⟨g, cap, cur, h1, h2, h3⟩
  · exact .inl h
  · exact .inr ⟨g, cap, cur, h1, by omega, h3⟩
theorem ownsRow_same {w w' : World} {b : Nat} {e : TypeId} {z : Nat} {v : Value} {n : Nat} {xs : List Value} (h : w.ownsRow b e z v n xs) (hs : ∀ k, v.ownBlock = some k → w'.heap[k]? = w.heap[k]?) : w'.ownsRow b e z v n xs := by
  refine ⟨h.1, ?_⟩
  rcases h.2 with h | ⟨g, cap, cur, h1, h2, h3, h4⟩
  · exact .inl h
  · subst h1
    exact .inr ⟨g, cap, cur, rfl, h2, (hs g rfl).trans h3, h4⟩

mutual
theorem Rep.same {w w' : World} : ∀ (x : X) {v : Value} {fs : List Nat}, Rep w x v fs → (∀ b, b ∈ fs → w'.heap[b]? = w.heap[b]?) → Rep w' x v fs
  | .mk op names kids loc, v, fs, h, hs => by
    simp only [Rep] at h ⊢
    obtain ⟨b, nv, lv, ps, fk, h1, h2, h3, h4, h5, h6⟩ := h
    subst h6
    refine ⟨b, nv, lv, ps, fk, h1, (hs b (by simp)).trans h2, ownsRow_same h3 (fun k e => hs k (by simp [e])), ownsRow_same h4 (fun k e => hs k (by simp [e])), Reps.same kids h5 (fun k e => hs k (by simp [e])), rfl⟩
theorem Reps.same {w w' : World} : ∀ (xs : List X) {ps : List Value} {fs : List Nat}, Reps w xs ps fs → (∀ b, b ∈ fs → w'.heap[b]? = w.heap[b]?) → Reps w' xs ps fs
  | [], ps, fs, h, _ => by simpa only [Reps] using h
  | x :: xs, ps, fs, h, hs => by
    simp only [Reps] at h ⊢
    obtain ⟨p, qs, f1, f2, h1, h2, h3, h4⟩ := h
    subst h4
    exact ⟨p, qs, f1, f2, h1, Rep.same x h2 (fun k e => hs k (by simp [e])), Reps.same xs h3 (fun k e => hs k (by simp [e])), rfl⟩
end
theorem Reps.snoc {w : World} : ∀ {xs : List X} {ps : List Value} {fs : List Nat} {x : X} {p : Value} {f : List Nat}, Reps w xs ps fs → Rep w x p f → Reps w (xs ++ [x]) (ps ++ [p]) (fs ++ f)
  | [], ps, fs, x, p, f, h, hx => by
    simp only [Reps] at h
    obtain ⟨rfl, rfl⟩ := h
    simp only [List.nil_append, Reps]
    exact ⟨p, [], f, [], rfl, hx, ⟨rfl, rfl⟩, by simp⟩
  | y :: xs, ps, fs, x, p, f, h, hx => by
    simp only [Reps] at h
    obtain ⟨q, qs, f1, f2, rfl, h2, h3, rfl⟩ := h
    simp only [List.cons_append, Reps]
    exact ⟨q, qs ++ [p], f1, f2 ++ f, rfl, h2, h3.snoc hx, by simp⟩
theorem Reps.len {w : World} : ∀ {xs : List X} {ps : List Value} {fs : List Nat}, Reps w xs ps fs → ps.length = xs.length
  | [], ps, fs, h => by simp only [Reps] at h; rw [h.1]; rfl
  | x :: xs, ps, fs, h => by
    simp only [Reps] at h
    obtain ⟨q, qs, f1, f2, rfl, h2, h3, rfl⟩ := h
    simp [h3.len]

/-- an expression in the making: at block xb, all of it at blocks from B on. -/
structure Bld (w : World) (B xb : Nat) (op : ByteArray) (names : List ByteArray) (kids : List X) (loc : Nat) (nv lv : Value) (ps : List Value) (fk : List Nat) : Prop where
  blk : w.heap[xb]? = some (.cells #[.string op, nv, lv, .int .i64 loc] 87 (0, 0))
  nm : w.ownsRow B 9 1 nv names.length (names.map Value.string)
  kd : w.ownsRow B 26 1 lv ps.length ps
  rp : Reps w kids ps fk
  out : ∀ b, b ∈ fk → B ≤ b ∧ b ≠ xb ∧ nv.ownBlock ≠ some b ∧ lv.ownBlock ≠ some b
  low : B ≤ xb

section
variable {w w' : World} {B xb : Nat} {op : ByteArray} {names : List ByteArray} {kids : List X} {loc : Nat} {nv lv : Value} {ps : List Value} {fk : List Nat}

theorem Bld.fk_lt (h : Bld w B xb op names kids loc nv lv ps fk) : ps.length = kids.length := h.rp.len
theorem Bld.rep (h : Bld w B xb op names kids loc nv lv ps fk) : Rep w (.mk op names kids loc) (.pointer (some ⟨xb, 0, none⟩)) (xb :: (nv.ownBlock.toList ++ lv.ownBlock.toList ++ fk)) := by
  simp only [Rep]
  exact ⟨xb, nv, lv, ps, fk, rfl, h.blk, ownsRow_base h.nm (Nat.zero_le _), ownsRow_base h.kd (Nat.zero_le _), h.rp, rfl⟩
theorem Bld.fs_low (h : Bld w B xb op names kids loc nv lv ps fk) : ∀ b, b ∈ (xb :: (nv.ownBlock.toList ++ lv.ownBlock.toList ++ fk)) → B ≤ b := by
  intro b hb
  simp only [List.mem_cons, List.mem_append, Option.mem_toList] at hb
  rcases hb with rfl | (hb | hb) | hb
  · exact h.low
  · exact (h.nm.lt b hb).1
  · exact (h.kd.lt b hb).1
  · exact (h.out b hb).1
/-- nothing of it has turned. -/
theorem Bld.same (h : Bld w B xb op names kids loc nv lv ps fk) (hs : ∀ b, b < w.heap.size → B ≤ b → w'.heap[b]? = w.heap[b]?) (hf : ∀ b, b ∈ fk → b < w.heap.size) : Bld w' B xb op names kids loc nv lv ps fk :=
  ⟨(hs xb (lt_of_block h.blk) h.low).trans h.blk, ownsRow_same h.nm (fun k e => hs k (h.nm.lt k e).2 (h.nm.lt k e).1), ownsRow_same h.kd (fun k e => hs k (h.kd.lt k e).2 (h.kd.lt k e).1),
    Reps.same kids h.rp (fun b hb => hs b (hf b hb) (h.out b hb).1), h.out, h.low⟩
end

mutual
theorem Rep.lt {w : World} : ∀ (x : X) {v : Value} {fs : List Nat}, Rep w x v fs → ∀ b, b ∈ fs → b < w.heap.size
  | .mk op names kids loc, v, fs, h, b, hb => by
    simp only [Rep] at h
    obtain ⟨b0, nv, lv, ps, fk, h1, h2, h3, h4, h5, h6⟩ := h
    subst h6
    simp only [List.mem_cons, List.mem_append, Option.mem_toList] at hb
    rcases hb with rfl | (hb | hb) | hb
    · exact lt_of_block h2
    · exact (h3.lt b hb).2
    · exact (h4.lt b hb).2
    · exact Reps.lt kids h5 b hb
theorem Reps.lt {w : World} : ∀ (xs : List X) {ps : List Value} {fs : List Nat}, Reps w xs ps fs → ∀ b, b ∈ fs → b < w.heap.size
  | [], ps, fs, h, b, hb => by simp only [Reps] at h; rw [h.2] at hb; cases hb
  | x :: xs, ps, fs, h, b, hb => by
    simp only [Reps] at h
    obtain ⟨p, qs, f1, f2, h1, h2, h3, h4⟩ := h
    subst h4
    simp only [List.mem_append] at hb
    rcases hb with hb | hb
    · exact Rep.lt x h2 b hb
    · exact Reps.lt xs h3 b hb
end

section
variable {w w' : World} {B xb rb : Nat} {op : ByteArray} {names : List ByteArray} {kids : List X} {loc : Nat} {nv lv : Value} {ps : List Value} {fk : List Nat}

theorem Bld.kp (h : Bld w B xb op names kids loc nv lv ps fk) (g : Kp (· = rb) w w') (hr : rb < B) : Bld w' B xb op names kids loc nv lv ps fk :=
  h.same (fun b hb hB => g.block b hb (by show ¬ b = rb; omega)) (Reps.lt kids h.rp)
theorem Bld.c0 (h : Bld w B xb op names kids loc nv lv ps fk) : w.cell? ⟨xb, 0, none⟩ = some (.string op) := by simp [World.cell?, h.blk]
theorem Bld.c1 (h : Bld w B xb op names kids loc nv lv ps fk) : w.cell? ⟨xb, 1, none⟩ = some nv := by simp [World.cell?, h.blk]
theorem Bld.c2 (h : Bld w B xb op names kids loc nv lv ps fk) : w.cell? ⟨xb, 2, none⟩ = some lv := by simp [World.cell?, h.blk]
theorem Bld.c3 (h : Bld w B xb op names kids loc nv lv ps fk) : w.cell? ⟨xb, 3, none⟩ = some (.int .i64 loc) := by simp [World.cell?, h.blk]
theorem Bld.fz (h : Bld w B xb op names kids loc nv lv ps fk) (i : Nat) : w.frozen? ⟨xb, i, none⟩ = false := by simp [World.frozen?, h.blk]

/-- another type than the row's: no block of it. -/
theorem row_ne {w : World} {base : Nat} {e e' : TypeId} {z : Nat} {v : Value} {n : Nat} {xs : List Value} (h : w.ownsRow base e z v n xs) {pb : Nat} {cs : Array Value} (hp : w.heap[pb]? = some (.cells cs e' (0, 0))) (he : e ≠ e') : v.ownBlock ≠ some pb := by
  rcases h.2 with ⟨rfl, _⟩ | ⟨g, cap, cur, rfl, _, hg, _⟩
  · simp [Value.ownBlock]
  · simp only [Value.ownBlock]
    intro q
    obtain rfl := Option.some.inj q
    rw [hg] at hp
    simp at hp
    exact he hp.2
theorem rows_ne {w : World} {base base' : Nat} {e e' : TypeId} {z z' : Nat} {v v' : Value} {n n' : Nat} {xs xs' : List Value} (h : w.ownsRow base e z v n xs) (h' : w.ownsRow base' e' z' v' n' xs') (he : e ≠ e') : ∀ k, v.ownBlock = some k → v'.ownBlock ≠ some k := by
  intro k hk
  rcases h.2 with ⟨rfl, _⟩ | ⟨g, cap, cur, rfl, _, hg, _⟩
  · simp [Value.ownBlock] at hk
  · simp only [Value.ownBlock] at hk
    obtain rfl := Option.some.inj hk
    exact row_ne h' hg (Ne.symm he)

theorem Bld.setOp (h : Bld w B xb op names kids loc nv lv ps fk) (op' : ByteArray) : Bld (w.setCell ⟨xb, 0, none⟩ (.string op')) B xb op' names kids loc nv lv ps fk := by
  have hn := row_ne h.nm h.blk (by decide)
  have hk := row_ne h.kd h.blk (by decide)
  refine ⟨?_, ownsRow_setCell_other h.nm hn _, ownsRow_setCell_other h.kd hk _, Reps.same kids h.rp (fun b hb => Below.heap_setCell _ _ _ _ (h.out b hb).2.1), h.out, h.low⟩
  simp [World.setCell, h.blk, Array.getElem?_modify]

/-- one name more: the append's world w1, then the store. -/
theorem Bld.name (h : Bld w B xb op names kids loc nv lv ps fk) {o : Obj} {w1 : World} {g cap : Nat} {nm : ByteArray}
    (ho : w1.ownsRow B 9 1 (.slice (some ⟨g, 0, none⟩) (names.length + 1) cap) (names.length + 1) (names.map Value.string ++ [.string nm])) (hg : (w.alloc o).grownBy w1 nv.ownBlock) (hf : some g = nv.ownBlock ∨ w.heap.size < g) :
    Bld (w1.setCell ⟨xb, 1, none⟩ (.slice (some ⟨g, 0, none⟩) (names.length + 1) cap)) B xb op (names ++ [nm]) kids loc (.slice (some ⟨g, 0, none⟩) (names.length + 1) cap) lv ps fk := by
  have hlt : ∀ b, b < w.heap.size → some b ≠ nv.ownBlock → w1.heap[b]? = w.heap[b]? := fun b hb hne => by
    rw [hg.block b (by simp; omega) hne, Below.heap_alloc _ _ _ hb]
  have hxl := lt_of_block h.blk
  have hn := row_ne h.nm h.blk (by decide)
  have hk := row_ne h.kd h.blk (by decide)
  have hx1 : w1.heap[xb]? = some (.cells #[.string op, nv, lv, .int .i64 loc] 87 (0, 0)) := (hlt xb hxl (Ne.symm hn)).trans h.blk
  have hgx : g ≠ xb := by
    rcases hf with e | e
    · intro q; subst q; exact hn e.symm
    · omega
  refine ⟨?_, ?_, ?_, ?_, ?_, h.low⟩
  · simp [World.setCell, hx1, Array.getElem?_modify]
  · have := ownsRow_setCell_other ho (a := ⟨xb, 1, none⟩) (by simp [Value.ownBlock, hgx]) (.slice (some ⟨g, 0, none⟩) (names.length + 1) cap)
    simpa using this
  · refine ownsRow_setCell_other (ownsRow_same h.kd fun k e => hlt k (h.kd.lt k e).2 (fun q => rows_ne h.kd h.nm (by decide) k e q.symm)) hk _
  · refine Reps.same kids h.rp (fun b hb => ?_)
    rw [Below.heap_setCell _ _ _ _ (h.out b hb).2.1]
    exact hlt b (Reps.lt kids h.rp b hb) (Ne.symm (h.out b hb).2.2.1)
  · intro b hb
    have hbl := Reps.lt kids h.rp b hb
    refine ⟨(h.out b hb).1, (h.out b hb).2.1, ?_, (h.out b hb).2.2.2⟩
    simp only [Value.ownBlock]
    intro q
    obtain rfl := Option.some.inj q
    rcases hf with e | e
    · exact (h.out g hb).2.2.1 e.symm
    · omega

/-- one part more. -/
theorem Bld.kid (h : Bld w B xb op names kids loc nv lv ps fk) {o : Obj} {w1 : World} {g cap : Nat} {x : X} {p : Value} {f : List Nat} (hx : Rep w x p f) (hlow : ∀ b, b ∈ f → B ≤ b ∧ b ≠ xb ∧ nv.ownBlock ≠ some b ∧ lv.ownBlock ≠ some b)
    (ho : w1.ownsRow B 26 1 (.slice (some ⟨g, 0, none⟩) (ps.length + 1) cap) (ps.length + 1) (ps ++ [p])) (hg : (w.alloc o).grownBy w1 lv.ownBlock) (hf : some g = lv.ownBlock ∨ w.heap.size < g) :
    Bld (w1.setCell ⟨xb, 2, none⟩ (.slice (some ⟨g, 0, none⟩) (ps.length + 1) cap)) B xb op names (kids ++ [x]) loc nv (.slice (some ⟨g, 0, none⟩) (ps.length + 1) cap) (ps ++ [p]) (fk ++ f) := by
  have hlt : ∀ b, b < w.heap.size → some b ≠ lv.ownBlock → w1.heap[b]? = w.heap[b]? := fun b hb hne => by
    rw [hg.block b (by simp; omega) hne, Below.heap_alloc _ _ _ hb]
  have hxl := lt_of_block h.blk
  have hn := row_ne h.nm h.blk (by decide)
  have hk := row_ne h.kd h.blk (by decide)
  have hx1 : w1.heap[xb]? = some (.cells #[.string op, nv, lv, .int .i64 loc] 87 (0, 0)) := (hlt xb hxl (Ne.symm hk)).trans h.blk
  have hgx : g ≠ xb := by
    rcases hf with e | e
    · intro q; subst q; exact hk e.symm
    · omega
  refine ⟨?_, ?_, ?_, ?_, ?_, h.low⟩
  · simp [World.setCell, hx1, Array.getElem?_modify]
  · refine ownsRow_setCell_other (ownsRow_same h.nm fun k e => hlt k (h.nm.lt k e).2 (fun q => rows_ne h.nm h.kd (by decide) k e q.symm)) hn _
  · have := ownsRow_setCell_other ho (a := ⟨xb, 2, none⟩) (by simp [Value.ownBlock, hgx]) (.slice (some ⟨g, 0, none⟩) (ps.length + 1) cap)
    simpa using this
  · refine (Reps.same kids h.rp (fun b hb => ?_)).snoc (Rep.same x hx (fun b hb => ?_))
    · rw [Below.heap_setCell _ _ _ _ (h.out b hb).2.1]
      exact hlt b (Reps.lt kids h.rp b hb) (Ne.symm (h.out b hb).2.2.2)
    · rw [Below.heap_setCell _ _ _ _ (hlow b hb).2.1]
      exact hlt b (Rep.lt x hx b hb) (Ne.symm (hlow b hb).2.2.2)
  · intro b hb
    simp only [List.mem_append] at hb
    have hbl : b < w.heap.size := by
      rcases hb with hb | hb
      · exact Reps.lt kids h.rp b hb
      · exact Rep.lt x hx b hb
    have hall : B ≤ b ∧ b ≠ xb ∧ nv.ownBlock ≠ some b ∧ lv.ownBlock ≠ some b := by
      rcases hb with hb | hb
      · exact h.out b hb
      · exact hlow b hb
    refine ⟨hall.1, hall.2.1, hall.2.2.1, ?_⟩
    simp only [Value.ownBlock]
    intro q
    obtain rfl := Option.some.inj q
    rcases hf with e | e
    · exact hall.2.2.2 e.symm
    · omega
end
end Go.Proofs.YtleenphlgbklmaaGreatDoor

namespace Go.Proofs.YtleenphlgbklmaaGreatDoor

mutual
def expM (l : List Tk) : Nat → Nat → Int → Option (X × Nat × Int)
  | 0, _, _ => none
  | n + 1, k, bad =>
    if 0 ≤ bad then some (.mk { data := #[] } [] [] (tkAt l k).loc, k, bad)
    else if isM l { data := #[102, 117, 110] } k bad then
      (expM l n (takeK l { data := #[45, 62] } (takeK l { data := #[110, 97, 109, 101] } (k + 1) bad) (needB l { data := #[110, 97, 109, 101] } (k + 1) bad)) (needB l { data := #[45, 62] } (takeK l { data := #[110, 97, 109, 101] } (k + 1) bad) (needB l { data := #[110, 97, 109, 101] } (k + 1) bad))).bind fun r =>
        some (.mk { data := #[102, 117, 110] } [(tkAt l (k + 1)).s] [r.1] (tkAt l k).loc, r.2.1, r.2.2)
    else if isM l { data := #[105, 102] } k bad then
      (expM l n (k + 1) bad).bind fun r =>
      (expM l n (takeK l { data := #[116, 104, 101, 110] } r.2.1 r.2.2) (needB l { data := #[116, 104, 101, 110] } r.2.1 r.2.2)).bind fun s =>
      (expM l n (takeK l { data := #[101, 108, 115, 101] } s.2.1 s.2.2) (needB l { data := #[101, 108, 115, 101] } s.2.1 s.2.2)).bind fun t =>
        some (.mk { data := #[105, 102] } [] [r.1, s.1, t.1] (tkAt l k).loc, t.2.1, t.2.2)
    else if isM l { data := #[108, 101, 116] } k bad then
      if isM l { data := #[114, 101, 99] } (k + 1) bad then
        (boundM l n [] [] (k + 2) bad).bind fun r =>
        (andM l n r.1 r.2.1 r.2.2.1 r.2.2.2).bind fun s =>
        (expM l n (takeK l { data := #[105, 110] } s.2.2.1 s.2.2.2) (needB l { data := #[105, 110] } s.2.2.1 s.2.2.2)).bind fun t =>
          some (.mk { data := #[114, 101, 99] } s.1 (s.2.1 ++ [t.1]) (tkAt l k).loc, t.2.1, t.2.2)
      else
        (boundM l n [] [] (k + 1) bad).bind fun s =>
        (expM l n (takeK l { data := #[105, 110] } s.2.2.1 s.2.2.2) (needB l { data := #[105, 110] } s.2.2.1 s.2.2.2)).bind fun t =>
          some (.mk { data := #[108, 101, 116] } s.1 (s.2.1 ++ [t.1]) (tkAt l k).loc, t.2.1, t.2.2)
    else
      (atomM l n k bad).bind fun r => appM l n r.1 r.2.1 r.2.2
def boundM (l : List Tk) : Nat → List ByteArray → List X → Nat → Int → Option (List ByteArray × List X × Nat × Int)
  | 0, _, _, _, _ => none
  | n + 1, names, kids, k, bad =>
    let b2 := dupB names (tkAt l k).s (tkAt l k).loc (needB l { data := #[110, 97, 109, 101] } k bad)
    (expM l n (takeK l { data := #[61] } (takeK l { data := #[110, 97, 109, 101] } k bad) b2) (needB l { data := #[61] } (takeK l { data := #[110, 97, 109, 101] } k bad) b2)).bind fun r =>
      some (names ++ [(tkAt l k).s], kids ++ [r.1], r.2.1, r.2.2)
def andM (l : List Tk) : Nat → List ByteArray → List X → Nat → Int → Option (List ByteArray × List X × Nat × Int)
  | 0, _, _, _, _ => none
  | n + 1, names, kids, k, bad =>
    if isM l { data := #[97, 110, 100] } k bad then
      (boundM l n names kids (k + 1) bad).bind fun r => andM l n r.1 r.2.1 r.2.2.1 r.2.2.2
    else some (names, kids, k, bad)
def atomM (l : List Tk) : Nat → Nat → Int → Option (X × Nat × Int)
  | 0, _, _ => none
  | n + 1, k, bad =>
    if isM l { data := #[110, 97, 109, 101] } k bad || isM l { data := #[110, 117, 109] } k bad then some (.mk (tkAt l k).is [(tkAt l k).s] [] (tkAt l k).loc, k + 1, bad)
    else
      (expM l n (takeK l { data := #[40] } k bad) (needB l { data := #[40] } k bad)).bind fun r =>
      if isM l { data := #[44] } r.2.1 r.2.2 then
        (expM l n (r.2.1 + 1) r.2.2).bind fun s =>
          some (.mk { data := #[112, 97, 105, 114] } [] [r.1, s.1] (tkAt l k).loc, takeK l { data := #[41] } s.2.1 s.2.2, needB l { data := #[41] } s.2.1 s.2.2)
      else some (r.1, takeK l { data := #[41] } r.2.1 r.2.2, needB l { data := #[41] } r.2.1 r.2.2)
def appM (l : List Tk) : Nat → X → Nat → Int → Option (X × Nat × Int)
  | 0, _, _, _ => none
  | n + 1, x, k, bad =>
    if isM l { data := #[110, 97, 109, 101] } k bad || isM l { data := #[110, 117, 109] } k bad || isM l { data := #[40] } k bad then
      (atomM l n k bad).bind fun r => appM l n (.mk { data := #[97, 112, 112] } [] [x, r.1] x.loc) r.2.1 r.2.2
    else some (x, k, bad)
end

/-- no token but the last is an end, or none. -/
def Good (l : List Tk) : Prop := ∀ k, k < l.length → ∀ s : ByteArray, s.data.toList ≠ ({ data := #[101, 110, 100] } : ByteArray).data.toList → s.data.toList ≠ ({ data := #[110, 111, 110, 101] } : ByteArray).data.toList → ((tkAt l k).is.data.toList == s.data.toList) = true → k + 1 < l.length

theorem isM_bad {l : List Tk} {s : ByteArray} {k : Nat} {bad : Int} (h : isM l s k bad = true) : bad < 0 := by
  simp [isM] at h; exact h.1
theorem isM_lt {l : List Tk} {s : ByteArray} {k : Nat} {bad : Int} (hg : Good l) (hk : k < l.length) (h : isM l s k bad = true) (h1 : s.data.toList ≠ ({ data := #[101, 110, 100] } : ByteArray).data.toList) (h2 : s.data.toList ≠ ({ data := #[110, 111, 110, 101] } : ByteArray).data.toList) : k + 1 < l.length := by
  simp only [isM, Bool.and_eq_true] at h
  exact hg k hk s h1 h2 h.2
theorem takeK_lt {l : List Tk} {s : ByteArray} {k : Nat} {bad : Int} (hg : Good l) (hk : k < l.length) (h1 : s.data.toList ≠ ({ data := #[101, 110, 100] } : ByteArray).data.toList) (h2 : s.data.toList ≠ ({ data := #[110, 111, 110, 101] } : ByteArray).data.toList) : takeK l s k bad < l.length := by
  unfold takeK
  split
  · exact isM_lt hg hk (by assumption) h1 h2
  · exact hk
end Go.Proofs.YtleenphlgbklmaaGreatDoor

namespace Go.Proofs.YtleenphlgbklmaaGreatDoor

theorem clsK_bd (s : ByteArray) (i : Nat) (h : i ≤ s.size) : i ≤ clsK s i ∧ clsK s i ≤ s.size := by
  unfold clsK
  split
  · split
    · exact ⟨run_ge _ _ _, run_le _ _ _ h⟩
    · split
      · exact ⟨run_ge _ _ _, run_le _ _ _ h⟩
      · split
        · rename_i hh; omega
        · split <;> omega
  · omega
theorem toks_len (s : ByteArray) (kws : List ByteArray) : ∀ n i, (toksF s kws n i).length ≤ n
  | 0, i => by simp [toksF]
  | n + 1, i => by
    rw [toksF]
    split
    · simp
    · simp only [List.length_cons]
      have := toks_len s kws n (tok1 s kws (run blI s i)).2
      omega
theorem tkAt_zero (t : Tk) (l : List Tk) : tkAt (t :: l) 0 = t := by simp [tkAt]
theorem tkAt_succ (t : Tk) (l : List Tk) (k : Nat) : tkAt (t :: l) (k + 1) = tkAt l k := by simp [tkAt]
theorem toks_last (s : ByteArray) (kws : List ByteArray) : ∀ n i, i ≤ s.size → s.size + 1 ≤ i + n → ∀ k, k < (toksF s kws n i).length → lastT (tkAt (toksF s kws n i) k) = false → k + 1 < (toksF s kws n i).length
  | 0, i, h1, h2, k, hk, hl => by omega
  | n + 1, i, h1, h2, k, hk, hl => by
    rw [toksF] at hk hl ⊢
    split at hk
    · rename_i c
      rw [if_pos c] at hl
      simp only [List.length_cons, List.length_nil] at hk
      have : k = 0 := by omega
      subst this
      rw [tkAt_zero, c] at hl
      cases hl
    · rename_i c
      rw [if_neg c] at hl ⊢
      have c' : lastT (tok1 s kws (run blI s i)).1 = false := by simpa using c
      have g1 := tok1_gt s kws _ c'
      have g2 := run_ge blI s i
      have g3 := run_le blI s i h1
      have g4 := (clsK_bd s _ g3).2
      have e2 : (tok1 s kws (run blI s i)).2 = clsK s (run blI s i) := rfl
      have ihn := toks_last s kws n (tok1 s kws (run blI s i)).2 (by rw [e2]; exact g4) (by rw [e2]; omega)
      cases k with
      | zero =>
        have : 0 < (toksF s kws n (tok1 s kws (run blI s i)).2).length := by
          cases n with
          | zero => omega
          | succ n => rw [toksF]; split <;> simp
        simp only [List.length_cons]
        omega
      | succ k =>
        simp only [List.length_cons] at hk ⊢
        rw [tkAt_succ] at hl
        have := ihn k (by omega) hl
        omega
theorem toks_good (s : ByteArray) (kws : List ByteArray) : Good (toksF s kws (s.size + 1) 0) := by
  intro k hk w h1 h2 he
  refine toks_last s kws (s.size + 1) 0 (by omega) (by omega) k hk ?_
  simp only [beq_iff_eq] at he
  simp only [lastT, he, Bool.or_eq_false_iff, beq_eq_false_iff_ne]
  exact ⟨h2, h1⟩
theorem toks_pos (s : ByteArray) (kws : List ByteArray) : 0 < (toksF s kws (s.size + 1) 0).length := by
  rw [toksF]; split <;> simp
theorem toks_size (s : ByteArray) (kws : List ByteArray) : ∀ n i k, (tkAt (toksF s kws n i) k).s.size ≤ s.size
  | 0, i, k => by
    have : tkAt (toksF s kws 0 i) k = Tk.no := by simp [tkAt, toksF]
    rw [this]
    exact Nat.zero_le _
  | n + 1, i, k => by
    have ht : (tok1 s kws (run blI s i)).1.s.size ≤ s.size := by
      show (s.extract _ _).size ≤ s.size
      rw [ByteArray.size_extract]
      omega
    rw [toksF]
    split
    · cases k with
      | zero => rw [tkAt_zero]; exact ht
      | succ k => rw [tkAt_succ]; exact Nat.zero_le _
    · cases k with
      | zero => rw [tkAt_zero]; exact ht
      | succ k => rw [tkAt_succ]; exact toks_size s kws n _ k
end Go.Proofs.YtleenphlgbklmaaGreatDoor

namespace Go.Proofs.YtleenphlgbklmaaGreatDoor
open Go.RowKit

/-- a type of the document's reader. -/
inductive Ty where
  | mk (kind : ByteArray) (num : Nat) (kids : List Ty)

mutual
/-- the value leads to that type. -/
def TRep (w : World) : Ty → Value → Prop
  | .mk kd n kids, p => ∃ b lv ps, p = .pointer (some ⟨b, 0, none⟩) ∧ w.heap[b]? = some (.cells #[.string kd, .int .i64 n, lv] 104 (0, 0)) ∧ w.ownsRow 0 33 1 lv ps.length ps ∧ TReps w kids ps
def TReps (w : World) : List Ty → List Value → Prop
  | [], ps => ps = []
  | t :: ts, ps => ∃ p qs, ps = p :: qs ∧ TRep w t p ∧ TReps w ts qs
end

theorem TRep.ptr {w : World} : ∀ {t : Ty} {p : Value}, TRep w t p → ∃ b, p = .pointer (some ⟨b, 0, none⟩)
  | .mk _ _ _, _, h => by
    simp only [TRep] at h
    obtain ⟨b, _, _, h1, _⟩ := h
    exact ⟨b, h1⟩

/-- every block of types is as it was. -/
def TKeep (w w' : World) : Prop := ∀ (k : Nat) (cs : Array Value) (e : TypeId) (f : Nat × Nat), e = 104 ∨ e = 33 → w.heap[k]? = some (.cells cs e f) → w'.heap[k]? = some (.cells cs e f)
theorem TKeep.refl (w : World) : TKeep w w := fun _ _ _ _ _ h => h
theorem TKeep.trans {a b c : World} (h : TKeep a b) (k : TKeep b c) : TKeep a c := fun q cs e f he hq => k q cs e f he (h q cs e f he hq)
theorem TKeep.kp {S : Nat → Prop} {w w' : World} (h : Kp S w w') (hS : ∀ k, S k → ∀ cs e f, w.heap[k]? = some (.cells cs e f) → e ≠ 104 ∧ e ≠ 33) : TKeep w w' := fun k cs e f he hk =>
  h.blk hk (fun s => by have := hS k s cs e f hk; rcases he with rfl | rfl; exact this.1 rfl; exact this.2 rfl)
theorem TKeep.below {w w' : World} (h : Below w.heap.size w w') : TKeep w w' := fun k cs e f _ hk => (h.block k (lt_of_block hk)).trans hk
theorem TKeep.alloc (w : World) (o : Obj) : TKeep w (w.alloc o) := fun k cs e f _ hk => (Below.heap_alloc w o k (lt_of_block hk)).trans hk

theorem ownsRow_tkeep {w w' : World} {b : Nat} {v : Value} {n : Nat} {xs : List Value} (h : w.ownsRow b 33 1 v n xs) (hk : TKeep w w') : w'.ownsRow b 33 1 v n xs := by
  refine ⟨h.1, ?_⟩
  rcases h.2 with h | ⟨g, cap, cur, h1, h2, h3, h4⟩
  · exact .inl h
  · exact .inr ⟨g, cap, cur, h1, h2, hk g cur 33 (0, 0) (.inr rfl) h3, h4⟩

mutual
theorem TRep.keep {w w' : World} (hk : TKeep w w') : ∀ (t : Ty) {p : Value}, TRep w t p → TRep w' t p
  | .mk kd n kids, p, h => by
    simp only [TRep] at h ⊢
    obtain ⟨b, lv, ps, h1, h2, h3, h4⟩ := h
    exact ⟨b, lv, ps, h1, hk b _ 104 (0, 0) (.inl rfl) h2, ownsRow_tkeep h3 hk, TReps.keep hk kids h4⟩
theorem TReps.keep {w w' : World} (hk : TKeep w w') : ∀ (ts : List Ty) {ps : List Value}, TReps w ts ps → TReps w' ts ps
  | [], ps, h => by simpa only [TReps] using h
  | t :: ts, ps, h => by
    simp only [TReps] at h ⊢
    obtain ⟨p, qs, h1, h2, h3⟩ := h
    exact ⟨p, qs, h1, TRep.keep hk t h2, TReps.keep hk ts h3⟩
end
theorem TReps.len {w : World} : ∀ {ts : List Ty} {ps : List Value}, TReps w ts ps → ps.length = ts.length
  | [], ps, h => by simp only [TReps] at h; rw [h]; rfl
  | t :: ts, ps, h => by
    simp only [TReps] at h
    obtain ⟨p, qs, rfl, h2, h3⟩ := h
    simp [h3.len]
theorem TReps.get {w : World} : ∀ {ts : List Ty} {ps : List Value}, TReps w ts ps → ∀ (i : Nat) (t : Ty), ts[i]? = some t → ∃ p, ps[i]? = some p ∧ TRep w t p
  | [], ps, h, i, t, hi => by simp at hi
  | t0 :: ts, ps, h, i, t, hi => by
    simp only [TReps] at h
    obtain ⟨p, qs, rfl, h2, h3⟩ := h
    cases i with
    | zero => simp at hi; subst hi; exact ⟨p, rfl, h2⟩
    | succ i => simp at hi; simpa using h3.get i t hi

/-- a leaf, just laid. -/
theorem tleaf (w : World) (kd : ByteArray) (n : Nat) : TRep (w.alloc (.cells #[.string kd, .int .i64 n, .slice none 0 0] 104)) (.mk kd n []) (.pointer (some ⟨w.heap.size, 0, none⟩)) := by
  simp only [TRep, TReps]
  exact ⟨w.heap.size, .slice none 0 0, [], rfl, heap_alloc_new _ _, World.ownsRow_nil _ _ _ _, rfl⟩
theorem tnode1 {w : World} {x : Ty} {p : Value} (kd : ByteArray) (hx : TRep w x p) :
    TRep ((w.alloc (.cells #[p] 33)).alloc (.cells #[.string kd, .int .i64 0, .slice (some ⟨w.heap.size, 0, none⟩) 1 1] 104)) (.mk kd 0 [x]) (.pointer (some ⟨w.heap.size + 1, 0, none⟩)) := by
  simp only [TRep, TReps]
  refine ⟨w.heap.size + 1, .slice (some ⟨w.heap.size, 0, none⟩) 1 1, [p], rfl, ?_, ?_, ?_⟩
  · have := heap_alloc_new (w.alloc (.cells #[p] 33)) (.cells #[.string kd, .int .i64 0, .slice (some ⟨w.heap.size, 0, none⟩) 1 1] 104)
    simpa using this
  · exact (World.ownsRow_lit (base := 0) (e := 33) (size := 1) w #[p] 1 (Nat.zero_le _) (by decide) rfl).alloc _
  · exact ⟨p, [], rfl, TRep.keep ((TKeep.alloc _ _).trans (TKeep.alloc _ _)) x hx, rfl⟩
theorem tnode2 {w : World} {x y : Ty} {p q : Value} (kd : ByteArray) (hx : TRep w x p) (hy : TRep w y q) :
    TRep ((w.alloc (.cells #[p, q] 33)).alloc (.cells #[.string kd, .int .i64 0, .slice (some ⟨w.heap.size, 0, none⟩) 2 2] 104)) (.mk kd 0 [x, y]) (.pointer (some ⟨w.heap.size + 1, 0, none⟩)) := by
  simp only [TRep, TReps]
  refine ⟨w.heap.size + 1, .slice (some ⟨w.heap.size, 0, none⟩) 2 2, [p, q], rfl, ?_, ?_, ?_⟩
  · have := heap_alloc_new (w.alloc (.cells #[p, q] 33)) (.cells #[.string kd, .int .i64 0, .slice (some ⟨w.heap.size, 0, none⟩) 2 2] 104)
    simpa using this
  · exact (World.ownsRow_lit (base := 0) (e := 33) (size := 1) w #[p, q] 2 (Nat.zero_le _) (by decide) rfl).alloc _
  · exact ⟨p, [q], rfl, TRep.keep ((TKeep.alloc _ _).trans (TKeep.alloc _ _)) x hx, q, [], rfl, TRep.keep ((TKeep.alloc _ _).trans (TKeep.alloc _ _)) y hy, rfl⟩
end Go.Proofs.YtleenphlgbklmaaGreatDoor

namespace Go.Proofs.YtleenphlgbklmaaGreatDoor
open Go.RowKit

def sameS (m n : ByteArray) : Bool := m.data.toList == n.data.toList
/-- a name among the names: its variable; the names behind it. -/
def nameM (names : List ByteArray) (nm : ByteArray) : Ty × List ByteArray :=
  match names.findIdx? (fun m => sameS m nm) with
  | some j => (.mk { data := #[] } j [], names)
  | none => (.mk { data := #[] } names.length [], names ++ [nm])

mutual
def arrowM (l : List Tk) : Nat → List ByteArray → Nat → Int → Option (Ty × List ByteArray × Nat × Int)
  | 0, _, _, _ => none
  | n + 1, names, k, bad =>
    (oneM l n names k bad).bind fun r =>
      if isM l { data := #[45, 62] } r.2.2.1 r.2.2.2 then
        (arrowM l n r.2.1 (r.2.2.1 + 1) r.2.2.2).bind fun s => some (.mk { data := #[102, 117, 110] } 0 [r.1, s.1], s.2.1, s.2.2.1, s.2.2.2)
      else some (r.1, r.2.1, r.2.2.1, r.2.2.2)
def oneM (l : List Tk) : Nat → List ByteArray → Nat → Int → Option (Ty × List ByteArray × Nat × Int)
  | 0, _, _, _ => none
  | n + 1, names, k, bad =>
    if isM l { data := #[105, 110, 116] } k bad then some (.mk { data := #[105, 110, 116] } 0 [], names, k + 1, bad)
    else if isM l { data := #[98, 111, 111, 108] } k bad then some (.mk { data := #[98, 111, 111, 108] } 0 [], names, k + 1, bad)
    else if isM l { data := #[91] } k bad then
      (arrowM l n names (k + 1) bad).bind fun r =>
        some (.mk { data := #[108, 105, 115, 116] } 0 [r.1], r.2.1, takeK l { data := #[93] } r.2.2.1 r.2.2.2, needB l { data := #[93] } r.2.2.1 r.2.2.2)
    else if isM l { data := #[40] } k bad then
      (arrowM l n names (k + 1) bad).bind fun r =>
        if isM l { data := #[44] } r.2.2.1 r.2.2.2 then
          (arrowM l n r.2.1 (r.2.2.1 + 1) r.2.2.2).bind fun s =>
            some (.mk { data := #[112, 97, 105, 114] } 0 [r.1, s.1], s.2.1, takeK l { data := #[41] } s.2.2.1 s.2.2.2, needB l { data := #[41] } s.2.2.1 s.2.2.2)
        else some (r.1, r.2.1, takeK l { data := #[41] } r.2.2.1 r.2.2.2, needB l { data := #[41] } r.2.2.1 r.2.2.2)
    else some ((nameM names (tkAt l k).s).1, (nameM names (tkAt l k).s).2, takeK l { data := #[110, 97, 109, 101] } k bad, needB l { data := #[110, 97, 109, 101] } k bad)
end

theorem sameS_iff (m n : ByteArray) : sameS m n = true ↔ m = n := by
  unfold sameS
  rw [beq_iff_eq]
  constructor
  · intro h
    cases m; cases n
    simp at h
    rw [h]
  · intro h; rw [h]
/-- names: each once, each some token's text. -/
structure NmOk (l : List Tk) (names : List ByteArray) : Prop where
  nd : names.Nodup
  of : ∀ m, m ∈ names → ∃ k, k < l.length ∧ (tkAt l k).s = m
theorem nodup_len {α : Type} [DecidableEq α] : ∀ (xs ys : List α), xs.Nodup → (∀ x, x ∈ xs → x ∈ ys) → xs.length ≤ ys.length
  | [], ys, _, _ => Nat.zero_le _
  | x :: xs, ys, hn, hs => by
    have hx := hs x (by simp)
    have h1 := nodup_len xs (ys.erase x) (List.nodup_cons.1 hn).2 (fun y hy => by
      have hne : y ≠ x := fun e => (List.nodup_cons.1 hn).1 (e ▸ hy)
      exact (List.mem_erase_of_ne hne).2 (hs y (by simp [hy])))
    rw [List.length_erase_of_mem hx] at h1
    have := List.length_pos_of_mem hx
    simp
    omega
theorem NmOk.len {l : List Tk} {names : List ByteArray} (h : NmOk l names) : names.length ≤ l.length := by
  have := nodup_len names (l.map Tk.s) h.nd (fun m hm => by
    obtain ⟨k, hk, e⟩ := h.of m hm
    simp only [tkAt, List.getD_eq_getElem?_getD, List.getElem?_eq_getElem hk, Option.getD_some] at e
    exact List.mem_map.2 ⟨l[k], List.getElem_mem hk, e⟩)
  simpa using this
theorem NmOk.nil (l : List Tk) : NmOk l [] := ⟨List.nodup_nil, fun _ h => nomatch h⟩
theorem NmOk.name {l : List Tk} {names : List ByteArray} (h : NmOk l names) {k : Nat} (hk : k < l.length) : NmOk l (nameM names (tkAt l k).s).2 := by
  unfold nameM
  split
  · exact h
  · rename_i e
    rw [List.findIdx?_eq_none_iff] at e
    refine ⟨?_, ?_⟩
    · refine List.nodup_append.2 ⟨h.nd, by simp, ?_⟩
      intro a ha b hb
      simp at hb
      subst hb
      intro q
      have := e a ha
      rw [(sameS_iff a _).2 q] at this
      simp at this
    · intro m hm
      simp at hm
      rcases hm with hm | rfl
      · exact h.of m hm
      · exact ⟨k, hk, rfl⟩

theorem tread_ok (l : List Tk) (hG : Good l) : ∀ n, (∀ names k bad t names' k' bad', arrowM l n names k bad = some (t, names', k', bad') → k < l.length → NmOk l names → k' < l.length ∧ NmOk l names') ∧
    (∀ names k bad t names' k' bad', oneM l n names k bad = some (t, names', k', bad') → k < l.length → NmOk l names → k' < l.length ∧ NmOk l names') := by
  intro n
  induction n with
  | zero => exact ⟨fun _ _ _ _ _ _ _ h => by simp [arrowM] at h, fun _ _ _ _ _ _ _ h => by simp [oneM] at h⟩
  | succ n ih =>
    refine ⟨?_, ?_⟩
    · intro names k bad t names' k' bad' h hk ho
      simp only [arrowM] at h
      obtain ⟨⟨x, n1, k1, b1⟩, h1, h2⟩ := Option.bind_eq_some_iff.1 h
      obtain ⟨hk1, ho1⟩ := ih.2 _ _ _ _ _ _ _ h1 hk ho
      simp only at h2
      split at h2
      · rename_i hM
        obtain ⟨⟨y, n2, k2, b2⟩, h3, h4⟩ := Option.bind_eq_some_iff.1 h2
        obtain ⟨hk2, ho2⟩ := ih.1 _ _ _ _ _ _ _ h3 (isM_lt hG hk1 hM (by decide) (by decide)) ho1
        simp only [Option.some.injEq, Prod.mk.injEq] at h4
        obtain ⟨_, rfl, rfl, _⟩ := h4
        exact ⟨hk2, ho2⟩
      · simp only [Option.some.injEq, Prod.mk.injEq] at h2
        obtain ⟨_, rfl, rfl, _⟩ := h2
        exact ⟨hk1, ho1⟩
    · intro names k bad t names' k' bad' h hk ho
      simp only [oneM] at h
      split at h
      · rename_i hM
        simp only [Option.some.injEq, Prod.mk.injEq] at h
        obtain ⟨_, rfl, rfl, _⟩ := h
        exact ⟨isM_lt hG hk hM (by decide) (by decide), ho⟩
      · split at h
        · rename_i hM
          simp only [Option.some.injEq, Prod.mk.injEq] at h
          obtain ⟨_, rfl, rfl, _⟩ := h
          exact ⟨isM_lt hG hk hM (by decide) (by decide), ho⟩
        · split at h
          · rename_i hM
            obtain ⟨⟨x, n1, k1, b1⟩, h1, h2⟩ := Option.bind_eq_some_iff.1 h
            obtain ⟨hk1, ho1⟩ := ih.1 _ _ _ _ _ _ _ h1 (isM_lt hG hk hM (by decide) (by decide)) ho
            simp only [Option.some.injEq, Prod.mk.injEq] at h2
            obtain ⟨_, rfl, rfl, _⟩ := h2
            exact ⟨takeK_lt hG hk1 (by decide) (by decide), ho1⟩
          · split at h
            · rename_i hM
              obtain ⟨⟨x, n1, k1, b1⟩, h1, h2⟩ := Option.bind_eq_some_iff.1 h
              obtain ⟨hk1, ho1⟩ := ih.1 _ _ _ _ _ _ _ h1 (isM_lt hG hk hM (by decide) (by decide)) ho
              simp only at h2
              split at h2
              · rename_i hM2
                obtain ⟨⟨y, n2, k2, b2⟩, h3, h4⟩ := Option.bind_eq_some_iff.1 h2
                obtain ⟨hk2, ho2⟩ := ih.1 _ _ _ _ _ _ _ h3 (isM_lt hG hk1 hM2 (by decide) (by decide)) ho1
                simp only [Option.some.injEq, Prod.mk.injEq] at h4
                obtain ⟨_, rfl, rfl, _⟩ := h4
                exact ⟨takeK_lt hG hk2 (by decide) (by decide), ho2⟩
              · simp only [Option.some.injEq, Prod.mk.injEq] at h2
                obtain ⟨_, rfl, rfl, _⟩ := h2
                exact ⟨takeK_lt hG hk1 (by decide) (by decide), ho1⟩
            · simp only [Option.some.injEq, Prod.mk.injEq] at h
              obtain ⟨_, rfl, rfl, _⟩ := h
              exact ⟨takeK_lt hG hk (by decide) (by decide), ho.name hk⟩

/-- the names of variables: the list that a cell holds. -/
structure Nm (w : World) (nb B : Nat) (names : List ByteArray) : Prop where
  ex : ∃ nv, w.heap[nb]? = some (.cells #[nv] 34 (0, 0)) ∧ w.ownsRow B 9 1 nv names.length (names.map Value.string)
  low : B ≤ nb

theorem Nm.kp {w w' : World} {nb B rb : Nat} {names : List ByteArray} (h : Nm w nb B names) (g : Kp (· = rb) w w') (hr : rb < B) : Nm w' nb B names := by
  obtain ⟨nv, h1, h2⟩ := h.ex
  have hl := h.low
  exact ⟨⟨nv, g.blk h1 (by show ¬ nb = rb; omega), ownsRow_same h2 (fun k e => g.block k (h2.lt k e).2 (by show ¬ k = rb; have := (h2.lt k e).1; omega))⟩, h.low⟩
theorem Nm.alloc {w : World} {nb B : Nat} {names : List ByteArray} (h : Nm w nb B names) (o : Obj) : Nm (w.alloc o) nb B names := by
  obtain ⟨nv, h1, h2⟩ := h.ex
  exact ⟨⟨nv, (Below.heap_alloc w o nb (lt_of_block h1)).trans h1, h2.alloc o⟩, h.low⟩
theorem Nm.drew {w : World} {nb B : Nat} {names : List ByteArray} (h : Nm w nb B names) : Nm w.drew nb B names := by
  obtain ⟨nv, h1, h2⟩ := h.ex
  exact ⟨⟨nv, h1, ownsRow_same h2 (fun _ _ => rfl)⟩, h.low⟩
theorem TKeep.drew (w : World) : TKeep w w.drew := fun _ _ _ _ _ h => h
theorem TKeep.drewN (w : World) (n : Nat) : TKeep w (w.drewN n) := fun _ _ _ _ _ h => h
/-- the reader alone has turned. -/
theorem TKeep.rd {w w' : World} {rb tb c : Nat} {l : List Tk} {k : Nat} {bad : Int} (h : Rd w rb tb c l k bad) (g : Kp (· = rb) w w') : TKeep w w' :=
  TKeep.kp g (fun q hq cs e f hc => by
    have hq : q = rb := hq
    subst hq
    rw [h.rd] at hc
    simp at hc
    obtain ⟨_, rfl, _⟩ := hc
    decide)

/-- what the reader of types leaves. -/
structure TEnd (w w' : World) (rb tb c : Nat) (l : List Tk) (k' : Nat) (bad' : Int) (nb B : Nat) (names' : List ByteArray) : Prop where
  kp : Kp (fun q => q = rb ∨ B ≤ q) w w'
  tk : TKeep w w'
  rd : Rd w' rb tb c l k' bad'
  kl : k' < l.length
  nm : Nm w' nb B names'

def SArr (l : List Tk) (n : Nat) : Prop := ∀ (w : World) (rb tb c k : Nat) (bad : Int) (nb B : Nat) (names : List ByteArray) (t : Ty) (names' : List ByteArray) (k' : Nat) (bad' : Int), Rd w rb tb c l k bad → k < l.length → Nm w nb B names → rb < B → tb < B → NmOk l names → arrowM l n names k bad = some (t, names', k', bad') →
  Calls Tryz.prog 45 #[.pointer (some ⟨rb, 0, none⟩), .pointer (some ⟨nb, 0, none⟩)] w fun e w' => ∃ p, e = .returned p ∧ TRep w' t p ∧ TEnd w w' rb tb c l k' bad' nb B names'
def SOne (l : List Tk) (n : Nat) : Prop := ∀ (w : World) (rb tb c k : Nat) (bad : Int) (nb B : Nat) (names : List ByteArray) (t : Ty) (names' : List ByteArray) (k' : Nat) (bad' : Int), Rd w rb tb c l k bad → k < l.length → Nm w nb B names → rb < B → tb < B → NmOk l names → oneM l n names k bad = some (t, names', k', bad') →
  Calls Tryz.prog 83 #[.pointer (some ⟨rb, 0, none⟩), .pointer (some ⟨nb, 0, none⟩)] w fun e w' => ∃ p, e = .returned p ∧ TRep w' t p ∧ TEnd w w' rb tb c l k' bad' nb B names'
end Go.Proofs.YtleenphlgbklmaaGreatDoor

namespace Go.Proofs.YtleenphlgbklmaaGreatDoor
open Go.RowKit

set_option maxHeartbeats 1000000 in
theorem is_any (w : World) (rb tb c : Nat) (l : List Tk) (k : Nat) (bad : Int) (s : ByteArray) (h : Rd w rb tb c l k bad) (hk : k < l.length) (hl : l.length ≤ 1000) :
    Calls Tryz.prog 79 #[.pointer (some ⟨rb, 0, none⟩), .string s] w fun e w' => e = .returned (.bool (isM l s k bad)) ∧ ∃ n, w' = w.drewN n := by
  have h0 := h.c0
  have h1 := h.c1
  have h2 := h.c2
  have h3 := (h.tk k hk).1
  clear h
  by_cases hb : bad < 0
  · have e1 : isM l s k bad = ((tkAt l k).is.toList == s.toList) := by simp [isM, hb, ByteArray.toList_eq]
    rw [e1]
    generalize (tkAt l k).is = q at *
    clear e1
    go_enter Tryz.func79, Tryz.ntmps79
    go_wp2
    go_quiet (fail)
    go_wp2
    go_ret
    exact ⟨rfl, _, rfl⟩
  · have e1 : isM l s k bad = false := by simp [isM, hb]
    rw [e1]
    have hd : decide (bad < 0) = false := by simpa using hb
    clear e1 h3
    go_enter Tryz.func79, Tryz.ntmps79
    go_wp2
    go_quiet (fail)
    go_wp2
    go_ret
    exact ⟨rfl, _, rfl⟩
end Go.Proofs.YtleenphlgbklmaaGreatDoor

namespace Go.Proofs.YtleenphlgbklmaaGreatDoor
open Go.RowKit

set_option maxHeartbeats 1000000 in
theorem take_any (w : World) (rb tb c : Nat) (l : List Tk) (k : Nat) (bad : Int) (s : ByteArray) (h : Rd w rb tb c l k bad) (hk : k < l.length) (hl : l.length ≤ 1000) :
    Calls Tryz.prog 76 #[.pointer (some ⟨rb, 0, none⟩), .string s] w fun e w' => e = .returned (.bool (isM l s k bad)) ∧ Kp (· = rb) w w' ∧ Rd w' rb tb c l (takeK l s k bad) bad := by
  cases hM : isM l s k bad
  · have eK : takeK l s k bad = k := by simp [takeK, hM]
    rw [eK]
    go_enter Tryz.func76, Tryz.ntmps76
    go_wp2_with fail
    refine (is_any w rb tb c l k bad s h hk hl).mono ?_
    rintro e w' ⟨rfl, n, rfl⟩
    rw [hM]
    go_wp2
    go_ret
    exact ⟨rfl, (Kp.refl _ _).drewN n, h.drewN n⟩
  · have eK : takeK l s k bad = k + 1 := by simp [takeK, hM]
    rw [eK]
    go_enter Tryz.func76, Tryz.ntmps76
    go_wp2_with fail
    refine (is_any w rb tb c l k bad s h hk hl).mono ?_
    rintro e w' ⟨rfl, n, rfl⟩
    rw [hM]
    have h2 := h.drewN n
    have h3 : Kp (· = rb) w (w.drewN n) := (Kp.refl _ _).drewN n
    generalize w.drewN n = w1 at *
    have c1 := h2.c1
    have c2 := h2.fz 1
    go_wp2
    go_ret
    exact ⟨rfl, h3.setCell _ _ (fun _ => rfl), h2.setK (k + 1)⟩

set_option maxHeartbeats 1000000 in
theorem need_any (w : World) (rb tb c : Nat) (l : List Tk) (k : Nat) (bad : Int) (s : ByteArray) (h : Rd w rb tb c l k bad) (hk : k < l.length) (hl : l.length ≤ 1000) :
    Calls Tryz.prog 41 #[.pointer (some ⟨rb, 0, none⟩), .string s] w fun e w' => e = .returned (.string (tkAt l k).s) ∧ Kp (· = rb) w w' ∧ Rd w' rb tb c l (takeK l s k bad) (needB l s k bad) := by
  have h0 := h.c0
  have h1 := h.c1
  have h2 := h.c2
  obtain ⟨t0, t1, t2⟩ := h.tk k hk
  have hrb := h.lt
  have htb : tb < w.heap.size := World.block_lt_of_cell? _ _ t0
  go_enter Tryz.func41, Tryz.ntmps41
  go_wp2
  go_region
  have hR := (h.alloc (.cells #[.string (tkAt l k).is, .string (tkAt l k).s, .int .i64 (tkAt l k).loc] 151)).drew
  have hK : Kp (· = rb) w (w.alloc (.cells #[.string (tkAt l k).is, .string (tkAt l k).s, .int .i64 (tkAt l k).loc] 151)).drew := ((Kp.refl _ _).alloc _).drew
  have hT : (w.alloc (.cells #[.string (tkAt l k).is, .string (tkAt l k).s, .int .i64 (tkAt l k).loc] 151)).drew.heap[w.heap.size]? = some (.cells #[.string (tkAt l k).is, .string (tkAt l k).s, .int .i64 (tkAt l k).loc] 151 (0, 0)) := heap_alloc_new _ _
  have hne : w.heap.size ≠ rb := by omega
  go_wp2_with fail
  generalize (w.alloc (.cells #[.string (tkAt l k).is, .string (tkAt l k).s, .int .i64 (tkAt l k).loc] 151)).drew = w1 at *
  clear h h0 h1 h2 t0 t1 t2
  generalize w.heap.size = tq at *
  refine (take_any w1 rb tb c l k bad s hR hk hl).mono ?_
  rintro e w2 ⟨rfl, g2, r2⟩
  have hT2 := g2.blk hT hne
  have u0 : w2.cell? ⟨tq, 1, none⟩ = some (.string (tkAt l k).s) := by simp [World.cell?, hT2]
  have u1 : w2.cell? ⟨tq, 2, none⟩ = some (.int .i64 (tkAt l k).loc) := by simp [World.cell?, hT2]
  have r2c := r2.c2
  have hKK := hK.trans g2
  clear hT hT2 hR hK g2
  by_cases hM : isM l s k bad = true
  · have eB : Hid (needB l s k bad = bad) := by simp [Hid, needB, hM]
    rw [hM]
    clear hM
    go_wp2
    go_ret
    exact ⟨rfl, hKK, by rw [eB.out]; exact r2⟩
  · have hM' : isM l s k bad = false := by simpa using hM
    have fz := r2.fz 2
    by_cases hb : bad < 0
    · have eB : Hid (needB l s k bad = (tkAt l k).loc) := by simp [Hid, needB, hM', hb]
      have r3 := r2.setB (tkAt l k).loc
      have k3 := hKK.setCell ⟨rb, 2, none⟩ (.int .i64 (tkAt l k).loc) (fun _ => rfl)
      have u0' : (w2.setCell ⟨rb, 2, none⟩ (.int .i64 (tkAt l k).loc)).cell? ⟨tq, 1, none⟩ = some (.string (tkAt l k).s) := by
        rw [World.cell?_setCell_other _ _ _ _ (fun e => hne (by injection e with e1; exact e1.symm))]; exact u0
      rw [hM']
      clear hM hM'
      go_wp2
      go_ret
      exact ⟨rfl, k3, by rw [eB.out]; exact r3⟩
    · have eB : Hid (needB l s k bad = bad) := by simp [Hid, needB, hb]
      have hd : decide (bad < 0) = false := by simpa using hb
      rw [hM']
      clear hM hM'
      go_wp2
      go_ret
      exact ⟨rfl, hKK, by rw [eB.out]; exact r2⟩
end Go.Proofs.YtleenphlgbklmaaGreatDoor
