import Derived.Test.YtleenphlgbklmabGreatDoorURefGood
import Derived.Test.YtleenphlgbklmabGreatDoorUPRead
import Derived.Test.YtleenphlgbklmabGreatDoorUPTy
set_option linter.unusedVariables false
set_option linter.unusedSimpArgs false
namespace Go.Proofs.YtleenphlgbklmabGreatDoor
open Go.RowKit

theorem sum_take (names : List ByteArray) (q : Nat) : ((names.take q).map fun s => s.size + 16).sum ≤ (names.map fun s => s.size + 16).sum := by
  induction names generalizing q with
  | nil => simp
  | cons n ns ih =>
    cases q with
    | zero => simp
    | succ q => simp only [List.take_succ_cons, List.map_cons, List.sum_cons]; have := ih q; omega
theorem sum_take_succ (names : List ByteArray) (q : Nat) (h : q < names.length) : ((names.take (q + 1)).map fun s => s.size + 16).sum = ((names.take q).map fun s => s.size + 16).sum + ((names.getD q { data := #[] }).size + 16) := by
  rw [List.take_succ_eq_append_getElem h, List.map_append, List.sum_append, List.map_cons, List.map_nil, List.sum_cons, List.sum_nil]
  simp only [List.getD, List.getElem?_eq_getElem h, Option.getD_some, Nat.add_zero]
theorem tws_take (xs : List X) (q : Nat) : tws (xs.take q) ≤ tws xs := by
  induction xs generalizing q with
  | nil => simp
  | cons n ns ih =>
    cases q with
    | zero => simp [tws]
    | succ q => simp only [List.take_succ_cons, tws]; have := ih q; omega
theorem tws_append (xs : List X) (y : X) : tws (xs ++ [y]) = tws xs + (tw y + 16) := by
  induction xs with
  | nil => simp [tws]
  | cons x xs ih => simp only [List.cons_append, tws, ih]; omega
theorem tws_take_succ (xs : List X) (q : Nat) (h : q < xs.length) : tws (xs.take (q + 1)) = tws (xs.take q) + (tw (xs.getD q X.none) + 16) := by
  rw [List.take_succ_eq_append_getElem h, tws_append]
  simp [List.getD, h]
theorem getD_mem {xs : List X} {q : Nat} (h : q < xs.length) : xs.getD q X.none ∈ xs := by simp [List.getD, h]

theorem letT_size (s0 : ByteArray) (names : List ByteArray) (kids : List X) (ih : ∀ y, y ∈ kids → (txt y).size ≤ tw y) (q : Nat) (h1 : q ≤ names.length) (h2 : q ≤ kids.length) :
    (letT s0 names (txts kids) q).size ≤ s0.size + ((names.take q).map fun s => s.size + 16).sum + tws (kids.take q) := by
  induction q with
  | zero => simp [letT]
  | succ q ihq =>
    have i1 := ihq (by omega) (by omega)
    rw [letT, sum_take_succ names q (by omega), tws_take_succ kids q (by omega), txts_get kids q (by omega)]
    have i2 := ih _ (getD_mem (xs := kids) (q := q) (by omega))
    have a1 : ({ data := #[32, 97, 110, 100, 32] } : ByteArray).size = 5 := rfl
    have a2 : ({ data := #[32, 61, 32] } : ByteArray).size = 3 := rfl
    split
    · simp only [ByteArray.size_append, a1, a2]; omega
    · simp only [ByteArray.size_append, a2]; omega
theorem brk_size (b : Bool) (s : ByteArray) : (brk b s).size ≤ s.size + 2 := by
  unfold brk
  have a1 : ({ data := #[40] } : ByteArray).size = 1 := rfl
  have a2 : ({ data := #[41] } : ByteArray).size = 1 := rfl
  split
  · simp only [ByteArray.size_append, a1, a2]; omega
  · omega

theorem txt_size (x : X) : WF x → (txt x).size ≤ tw x := by
  induction x using X.ind with
  | h op names kids loc ih =>
    intro h
    cases h with
    | leaf _ n _ h =>
      rcases h with rfl | rfl <;> simp [txt, txts, tw, tws] <;> omega
    | fn n a _ ha =>
      have := ih a (by simp) ha
      simp [txt, txts, tw, tws]
      have a1 : ({ data := #[102, 117, 110, 32] } : ByteArray).size = 4 := rfl
      have a2 : ({ data := #[32, 45, 62, 32] } : ByteArray).size = 4 := rfl
      omega
    | pair a b _ ha hb =>
      have h1 := ih a (by simp) ha
      have h2 := ih b (by simp) hb
      simp [txt, txts, tw, tws]
      have a1 : ({ data := #[40] } : ByteArray).size = 1 := rfl
      have a2 : ({ data := #[44, 32] } : ByteArray).size = 2 := rfl
      have a3 : ({ data := #[41] } : ByteArray).size = 1 := rfl
      omega
    | ite a b c _ ha hb hc =>
      have h1 := ih a (by simp) ha
      have h2 := ih b (by simp) hb
      have h3 := ih c (by simp) hc
      simp [txt, txts, tw, tws]
      have a1 : ({ data := #[105, 102, 32] } : ByteArray).size = 3 := rfl
      have a2 : ({ data := #[32, 116, 104, 101, 110, 32] } : ByteArray).size = 6 := rfl
      have a3 : ({ data := #[32, 101, 108, 115, 101, 32] } : ByteArray).size = 6 := rfl
      omega
    | app a b _ ha hb =>
      have h1 := ih a (by simp) ha
      have h2 := ih b (by simp) hb
      have b1 := brk_size (needsF a.op) (txt a)
      have b2 := brk_size (needsA b.op) (txt b)
      simp [txt, txts, tw, tws]
      have a1 : ({ data := #[32] } : ByteArray).size = 1 := rfl
      omega
    | lt _ _ _ _ h hl h1 hk =>
      have i1 : ∀ y, y ∈ kids → (txt y).size ≤ tw y := fun y hy => ih y hy (hk y hy)
      have i2 := i1 _ (getD_mem (xs := kids) (q := names.length) (by omega))
      have e2 := txts_get kids names.length (by omega)
      have e3 := tws_take_succ kids names.length (by omega)
      have e4 := tws_take kids (names.length + 1)
      have e5 := sum_take names names.length
      have a1 : ({ data := #[32, 105, 110, 32] } : ByteArray).size = 4 := rfl
      have a2 : ({ data := #[108, 101, 116, 32] } : ByteArray).size = 4 := rfl
      have a3 : ({ data := #[114, 101, 99, 32] } : ByteArray).size = 4 := rfl
      rcases h with rfl | rfl
      · have l1 := letT_size { data := #[108, 101, 116, 32] } names kids i1 names.length (by omega) (by omega)
        simp only [txt, tw, if_true, show ¬ (({ data := #[108, 101, 116] } : ByteArray) = { data := #[102, 117, 110] }) from by decide, show ¬ (({ data := #[108, 101, 116] } : ByteArray) = { data := #[112, 97, 105, 114] }) from by decide, show ¬ (({ data := #[108, 101, 116] } : ByteArray) = { data := #[105, 102] }) from by decide, show ¬ (({ data := #[108, 101, 116] } : ByteArray) = { data := #[97, 112, 112] }) from by decide, if_false, e2, ByteArray.size_append, a1]
        omega
      · have l1 := letT_size ({ data := #[108, 101, 116, 32] } ++ { data := #[114, 101, 99, 32] }) names kids i1 names.length (by omega) (by omega)
        simp only [ByteArray.size_append, a2, a3] at l1
        simp only [txt, tw, if_true, show ¬ (({ data := #[114, 101, 99] } : ByteArray) = { data := #[102, 117, 110] }) from by decide, show ¬ (({ data := #[114, 101, 99] } : ByteArray) = { data := #[112, 97, 105, 114] }) from by decide, show ¬ (({ data := #[114, 101, 99] } : ByteArray) = { data := #[105, 102] }) from by decide, show ¬ (({ data := #[114, 101, 99] } : ByteArray) = { data := #[97, 112, 112] }) from by decide, show ¬ (({ data := #[114, 101, 99] } : ByteArray) = { data := #[108, 101, 116] }) from by decide, if_false, e2, ByteArray.size_append, a1]
        omega
end Go.Proofs.YtleenphlgbklmabGreatDoor

namespace Go.Proofs.YtleenphlgbklmabGreatDoor

/-- behind that token no blank stands. -/
def opn (t : ByteArray) : Bool := sameS t { data := #[] } || sameS t { data := #[40] }
/-- ahead of that token no blank stands. -/
def cls (t : ByteArray) : Bool := sameS t { data := #[41] } || sameS t { data := #[44] }
def pre (last : ByteArray) : ByteArray := if opn last then { data := #[] } else { data := #[32] }
def sep (last t : ByteArray) : ByteArray := if cls t then { data := #[] } else pre last
/-- what is written of tokens behind one; the last. -/
def em : ByteArray → List ByteArray → ByteArray
  | _, [] => { data := #[] }
  | l, t :: ts => sep l t ++ t ++ em t ts
def lst : ByteArray → List ByteArray → ByteArray
  | l, [] => l
  | _, t :: ts => lst t ts
/-- a word: a name or a number. -/
structure Wd (t : ByteArray) : Prop where
  o : opn t = false
  c : cls t = false
theorem pre_wd {t : ByteArray} (h : opn t = false) : pre t = { data := #[32] } := by unfold pre; rw [h]; rfl
theorem sep_wd {l t : ByteArray} (h : cls t = false) : sep l t = pre l := by unfold sep; rw [h]; rfl
theorem em_app (ts us : List ByteArray) : ∀ l, em l (ts ++ us) = em l ts ++ em (lst l ts) us := by
  induction ts with
  | nil => intro l; simp only [List.nil_append, em, lst]; exact (ByteArray.ext (by simp)).symm
  | cons t ts ih => intro l; simp only [List.cons_append, em, lst, ih, ByteArray.append_assoc]
theorem lst_app (ts us : List ByteArray) : ∀ l, lst l (ts ++ us) = lst (lst l ts) us := by
  induction ts with
  | nil => intro l; rfl
  | cons t ts ih => intro l; simp only [List.cons_append, lst, ih]
theorem sep_size (l t : ByteArray) : (sep l t).size ≤ 1 := by
  unfold sep pre
  split
  · decide
  · split <;> decide
theorem em_size (ts : List ByteArray) : ∀ l, (em l ts).size ≤ (ts.map fun t => t.size + 1).sum := by
  induction ts with
  | nil => intro l; exact Nat.zero_le _
  | cons t ts ih =>
    intro l
    have h1 := ih t
    have h2 := sep_size l t
    simp only [em, ByteArray.size_append, List.map_cons, List.sum_cons]
    omega
theorem em_one (l t : ByteArray) : em l [t] = sep l t ++ t := by
  simp only [em]
  exact ByteArray.ext (by simp)
end Go.Proofs.YtleenphlgbklmabGreatDoor

namespace Go.Proofs.YtleenphlgbklmabGreatDoor
open Go.RowKit

/-- an expression of the program; P: of the blocks that it lies in. -/
inductive PX (w : World) (P : Nat → Prop) : X → Value → Prop
  | name (n : ByteArray) (loc b : Nat) : Wd n → P b → w.heap[b]? = some (.cells #[.int .i64 1, .string n, .int .i64 loc] 239 (0, 0)) → PX w P (.mk { data := #[110, 97, 109, 101] } [n] [] loc) (.iface 233 (.pointer (some ⟨b, 0, none⟩)))
  | num (n : ByteArray) (loc b : Nat) : Wd n → P b → w.heap[b]? = some (.cells #[.int .i64 1, .string n] 261 (0, 0)) → PX w P (.mk { data := #[110, 117, 109] } [n] [] loc) (.iface 259 (.pointer (some ⟨b, 0, none⟩)))
  | fn (n : ByteArray) (x : X) (loc b : Nat) (p : Value) : Wd n → P b → w.heap[b]? = some (.cells #[.int .i64 (dp x + 1 : Nat), .string n, p] 242 (0, 0)) → PX w P x p → PX w P (.mk { data := #[102, 117, 110] } [n] [x] loc) (.iface 240 (.pointer (some ⟨b, 0, none⟩)))
  | ite (x y z : X) (loc b : Nat) (p q r : Value) : P b → w.heap[b]? = some (.cells #[.int .i64 (max (dp x) (max (dp y) (dp z)) + 1 : Nat), p, q, r] 246 (0, 0)) → PX w P x p → PX w P y q → PX w P z r → PX w P (.mk { data := #[105, 102] } [] [x, y, z] loc) (.iface 244 (.pointer (some ⟨b, 0, none⟩)))
  | lt (n : ByteArray) (x y : X) (loc b : Nat) (p q : Value) : Wd n → P b → w.heap[b]? = some (.cells #[.int .i64 (max (dp x) (dp y) + 1 : Nat), .string n, p, q] 249 (0, 0)) → PX w P x p → PX w P y q → PX w P (.mk { data := #[108, 101, 116] } [n] [x, y] loc) (.iface 247 (.pointer (some ⟨b, 0, none⟩)))
  | app (x y : X) (loc b : Nat) (p q : Value) : P b → w.heap[b]? = some (.cells #[.int .i64 (max (dp x) (dp y) + 1 : Nat), p, q] 254 (0, 0)) → PX w P x p → PX w P y q → PX w P (.mk { data := #[97, 112, 112] } [] [x, y] loc) (.iface 252 (.pointer (some ⟨b, 0, none⟩)))
  | pair (x y : X) (loc b : Nat) (p q : Value) : P b → w.heap[b]? = some (.cells #[.int .i64 (max (dp x) (dp y) + 1 : Nat), p, q] 257 (0, 0)) → PX w P x p → PX w P y q → PX w P (.mk { data := #[112, 97, 105, 114] } [] [x, y] loc) (.iface 255 (.pointer (some ⟨b, 0, none⟩)))
  | rc (names : List ByteArray) (kids : List X) (y : X) (loc b : Nat) (nv vv q : Value) (ps : List Value) : names ≠ [] → (∀ m, m ∈ names → Wd m) → P b → w.heap[b]? = some (.cells #[.int .i64 (max (dps kids) (dp y) + 1 : Nat), nv, vv, q] 291 (0, 0)) →
      w.ownsRow 0 9 1 nv names.length (names.map Value.string) → w.ownsRow 0 107 1 vv ps.length ps → (∀ g, nv.ownBlock = some g → P g) → (∀ g, vv.ownBlock = some g → P g) → ps.length = kids.length → names.length = kids.length → (∀ (j : Nat) (x : X) (p : Value), kids[j]? = some x → ps[j]? = some p → PX w P x p) → PX w P y q → PX w P (.mk { data := #[114, 101, 99] } names (kids ++ [y]) loc) (.iface 250 (.pointer (some ⟨b, 0, none⟩)))

theorem row_same {w w' : World} {P : Nat → Prop} (hk : ∀ b, P b → b < w.heap.size → w'.heap[b]? = w.heap[b]?) {B : Nat} {e : TypeId} {z : Nat} {v : Value} {n : Nat} {xs : List Value} (hP : ∀ g, v.ownBlock = some g → P g) (h : w.ownsRow B e z v n xs) : w'.ownsRow B e z v n xs := by
  refine ⟨h.1, ?_⟩
  rcases h.2 with h | ⟨g, cap, cur, h1, h2, h3, h4⟩
  · exact .inl h
  · subst h1
    exact .inr ⟨g, cap, cur, rfl, h2, (hk g (hP g rfl) (lt_of_block h3)).trans h3, h4⟩
theorem PX.keep {w w' : World} {P : Nat → Prop} (hk : ∀ b, P b → b < w.heap.size → w'.heap[b]? = w.heap[b]?) {t : X} {v : Value} (h : PX w P t v) : PX w' P t v := by
  have hb : ∀ {b o}, P b → w.heap[b]? = some o → w'.heap[b]? = some o := fun hP h => (hk _ hP (lt_of_block h)).trans h
  induction h with
  | name n loc b hW hP h   => exact .name n loc b hW hP (hb hP h) 
  | num n loc b hW hP h   => exact .num n loc b hW hP (hb hP h) 
  | fn n x loc b p hW hP h _ i0 => exact .fn n x loc b p hW hP (hb hP h) i0
  | ite x y z loc b p q r hP h _ _ _ i0 i1 i2 => exact .ite x y z loc b p q r hP (hb hP h) i0 i1 i2
  | lt n x y loc b p q hW hP h _ _ i0 i1 => exact .lt n x y loc b p q hW hP (hb hP h) i0 i1
  | app x y loc b p q hP h _ _ i0 i1 => exact .app x y loc b p q hP (hb hP h) i0 i1
  | pair x y loc b p q hP h _ _ i0 i1 => exact .pair x y loc b p q hP (hb hP h) i0 i1
  | rc names kids y loc b nv vv q ps hN hW hP h hn hv hnP hvP hl hl2 _ _ i j => exact .rc names kids y loc b nv vv q ps hN hW hP (hb hP h) (row_same hk hnP hn) (row_same hk hvP hv) hnP hvP hl hl2 i j
theorem PX.mono {w : World} {P Q : Nat → Prop} (hPQ : ∀ b, P b → b < w.heap.size → Q b) {t : X} {v : Value} (h : PX w P t v) : PX w Q t v := by
  have hg : ∀ {e : TypeId} {v : Value} {n : Nat} {xs : List Value}, w.ownsRow 0 e 1 v n xs → (∀ g, v.ownBlock = some g → P g) → ∀ g, v.ownBlock = some g → Q g := fun h hP g e => by
    refine hPQ g (hP g e) ?_
    rcases h.2 with ⟨rfl, _⟩ | ⟨g', cap, cur, h1, h2, h3, h4⟩
    · cases e
    · subst h1
      cases e
      exact lt_of_block h3
  induction h with
  | name n loc b hW hP h   => exact .name n loc b hW (hPQ _ hP (lt_of_block h)) h 
  | num n loc b hW hP h   => exact .num n loc b hW (hPQ _ hP (lt_of_block h)) h 
  | fn n x loc b p hW hP h _ i0 => exact .fn n x loc b p hW (hPQ _ hP (lt_of_block h)) h i0
  | ite x y z loc b p q r hP h _ _ _ i0 i1 i2 => exact .ite x y z loc b p q r (hPQ _ hP (lt_of_block h)) h i0 i1 i2
  | lt n x y loc b p q hW hP h _ _ i0 i1 => exact .lt n x y loc b p q hW (hPQ _ hP (lt_of_block h)) h i0 i1
  | app x y loc b p q hP h _ _ i0 i1 => exact .app x y loc b p q (hPQ _ hP (lt_of_block h)) h i0 i1
  | pair x y loc b p q hP h _ _ i0 i1 => exact .pair x y loc b p q (hPQ _ hP (lt_of_block h)) h i0 i1
  | rc names kids y loc b nv vv q ps hN hW hP h hn hv hnP hvP hl hl2 _ _ i j => exact .rc names kids y loc b nv vv q ps hN hW (hPQ _ hP (lt_of_block h)) h hn hv (hg hn hnP) (hg hv hvP) hl hl2 i j
/-- the kinds of the blocks that expressions lie in. -/
def isXT (e : TypeId) : Bool := e == 239 || e == 261 || e == 242 || e == 246 || e == 249 || e == 291 || e == 254 || e == 257 || e == 9 || e == 107
def XKeep (w w' : World) : Prop := ∀ (k : Nat) (cs : Array Value) (e : TypeId) (f : Nat × Nat), isXT e = true → w.heap[k]? = some (.cells cs e f) → w'.heap[k]? = some (.cells cs e f)
theorem XKeep.refl (w : World) : XKeep w w := fun _ _ _ _ _ h => h
theorem XKeep.trans {a b c : World} (h : XKeep a b) (k : XKeep b c) : XKeep a c := fun q cs e f he hq => k q cs e f he (h q cs e f he hq)
theorem XKeep.row {w w' : World} (hk : XKeep w w') {B : Nat} {e : TypeId} {z : Nat} {v : Value} {n : Nat} {xs : List Value} (he : isXT e = true) (h : w.ownsRow B e z v n xs) : w'.ownsRow B e z v n xs := by
  refine ⟨h.1, ?_⟩
  rcases h.2 with h | ⟨g, cap, cur, h1, h2, h3, h4⟩
  · exact .inl h
  · exact .inr ⟨g, cap, cur, h1, h2, hk g _ e _ he h3, h4⟩
theorem PX.keepT {w w' : World} {P : Nat → Prop} (hk : XKeep w w') {t : X} {v : Value} (h : PX w P t v) : PX w' P t v := by
  induction h with
  | name n loc b hW hP h => exact .name n loc b hW hP (hk _ _ _ _ (by decide) h)
  | num n loc b hW hP h => exact .num n loc b hW hP (hk _ _ _ _ (by decide) h)
  | fn n x loc b p hW hP h _ i0 => exact .fn n x loc b p hW hP (hk _ _ _ _ (by decide) h) i0
  | ite x y z loc b p q r hP h _ _ _ i0 i1 i2 => exact .ite x y z loc b p q r hP (hk _ _ _ _ (by decide) h) i0 i1 i2
  | lt n x y loc b p q hW hP h _ _ i0 i1 => exact .lt n x y loc b p q hW hP (hk _ _ _ _ (by decide) h) i0 i1
  | app x y loc b p q hP h _ _ i0 i1 => exact .app x y loc b p q hP (hk _ _ _ _ (by decide) h) i0 i1
  | pair x y loc b p q hP h _ _ i0 i1 => exact .pair x y loc b p q hP (hk _ _ _ _ (by decide) h) i0 i1
  | rc names kids y loc b nv vv q ps hN hW hP h hn hv hnP hvP hl hl2 _ _ i j => exact .rc names kids y loc b nv vv q ps hN hW hP (hk _ _ _ _ (by decide) h) (hk.row (by decide) hn) (hk.row (by decide) hv) hnP hvP hl hl2 i j
theorem PX.iface {w : World} {P : Nat → Prop} {t : X} {v : Value} (h : PX w P t v) : ∃ T u, v = .iface T u := by
  cases h <;> exact ⟨_, _, rfl⟩
end Go.Proofs.YtleenphlgbklmabGreatDoor

namespace Go.Proofs.YtleenphlgbklmabGreatDoor

/-- the fault that stands in a state of the reader: one that was told, or the token that is none. -/
def bz (l : List Tk) (k : Nat) (bad : Int) : Int := if 0 ≤ bad then bad else if (tkAt l k).is = { data := #[110, 111, 110, 101] } then ((tkAt l k).loc : Int) else -1
section
variable {l : List Tk} {k : Nat} {bad : Int}
theorem bz_ge (h : 0 ≤ bad) : bz l k bad = bad := by unfold bz; rw [if_pos h]
theorem bz_none (h : bad < 0) (hn : (tkAt l k).is = { data := #[110, 111, 110, 101] }) : bz l k bad = (tkAt l k).loc := by unfold bz; rw [if_neg (by omega), if_pos hn]
theorem bz_neg (h : bz l k bad < 0) : bad < 0 ∧ (tkAt l k).is ≠ { data := #[110, 111, 110, 101] } := by
  unfold bz at h
  split at h
  · omega
  · split at h
    · omega
    · exact ⟨by omega, by assumption⟩
theorem bz_ok (h : bad < 0) (hn : (tkAt l k).is ≠ { data := #[110, 111, 110, 101] }) : bz l k bad = -1 := by unfold bz; rw [if_neg (by omega), if_neg hn]
theorem bz_self (h : 0 ≤ bz l k bad) : bz l k (bz l k bad) = bz l k bad := bz_ge h
theorem isM_bz {q : ByteArray} (h : 0 ≤ bz l k bad) (hq : q.data.toList ≠ ({ data := #[110, 111, 110, 101] } : ByteArray).data.toList) : isM l q k bad = false := by
  by_cases h1 : 0 ≤ bad
  · exact isM_geT h1
  · by_cases h2 : (tkAt l k).is = { data := #[110, 111, 110, 101] }
    · exact isM_none h2 hq
    · rw [bz_ok (by omega) h2] at h; omega
theorem need_bz {q : ByteArray} (h : 0 ≤ bz l k bad) (hq : q.data.toList ≠ ({ data := #[110, 111, 110, 101] } : ByteArray).data.toList) : takeK l q k bad = k ∧ needB l q k bad = bz l k bad := by
  have e := isM_bz h hq
  unfold takeK needB
  rw [e]
  refine ⟨rfl, ?_⟩
  by_cases h1 : 0 ≤ bad
  · rw [bz_ge h1, if_neg (by simp; omega)]
  · by_cases h2 : (tkAt l k).is = { data := #[110, 111, 110, 101] }
    · rw [bz_none (by omega) h2, if_pos (by simp; omega)]
    · rw [bz_ok (by omega) h2] at h; omega
theorem need_bz' {q : ByteArray} (h : 0 ≤ bz l k bad) (hq : q.data.toList ≠ ({ data := #[110, 111, 110, 101] } : ByteArray).data.toList) : bz l (takeK l q k bad) (needB l q k bad) = bz l k bad := by
  rw [(need_bz h hq).1, (need_bz h hq).2]; exact bz_self h
theorem dup_ge {names : List ByteArray} {s : ByteArray} {loc : Nat} (h : 0 ≤ bad) : dupB names s loc bad = bad := by
  unfold dupB
  rw [if_neg (by simp; omega)]
end

/-- a fault once told stays. -/
structure Stk (l : List Tk) (n : Nat) : Prop where
  ex : ∀ k bad x k' bad', expM l n k bad = some (x, k', bad') → 0 ≤ bz l k bad → bz l k' bad' = bz l k bad
  bo : ∀ names kids k bad ns' ks' k' bad', boundM l n names kids k bad = some (ns', ks', k', bad') → 0 ≤ bz l k bad → bz l k' bad' = bz l k bad
  an : ∀ names kids k bad ns' ks' k' bad', andM l n names kids k bad = some (ns', ks', k', bad') → 0 ≤ bz l k bad → bz l k' bad' = bz l k bad
  at' : ∀ k bad x k' bad', atomM l n k bad = some (x, k', bad') → 0 ≤ bz l k bad → bz l k' bad' = bz l k bad
  ap : ∀ x k bad x' k' bad', appM l n x k bad = some (x', k', bad') → 0 ≤ bz l k bad → bz l k' bad' = bz l k bad
theorem stk (l : List Tk) : ∀ n, Stk l n := by
  intro n
  induction n with
  | zero => exact ⟨fun _ _ _ _ _ h => by simp [expM] at h, fun _ _ _ _ _ _ _ _ h => by simp [boundM] at h, fun _ _ _ _ _ _ _ _ h => by simp [andM] at h, fun _ _ _ _ _ h => by simp [atomM] at h, fun _ _ _ _ _ _ h => by simp [appM] at h⟩
  | succ n ih =>
    refine ⟨?_, ?_, ?_, ?_, ?_⟩
    · intro k bad x k' bad' h hz
      simp only [expM, isM_bz hz (show ({ data := #[102, 117, 110] } : ByteArray).data.toList ≠ ({ data := #[110, 111, 110, 101] } : ByteArray).data.toList by decide), isM_bz hz (show ({ data := #[105, 102] } : ByteArray).data.toList ≠ ({ data := #[110, 111, 110, 101] } : ByteArray).data.toList by decide), isM_bz hz (show ({ data := #[108, 101, 116] } : ByteArray).data.toList ≠ ({ data := #[110, 111, 110, 101] } : ByteArray).data.toList by decide), Bool.false_eq_true, if_false] at h
      split at h
      · simp only [Option.some.injEq, Prod.mk.injEq] at h
        obtain ⟨_, rfl, rfl⟩ := h
        rfl
      · obtain ⟨⟨x1, k1, b1⟩, h1, h2⟩ := Option.bind_eq_some_iff.1 h
        have e := ih.at' _ _ _ _ _ h1 hz
        exact (ih.ap _ _ _ _ _ _ h2 (by simp only; omega)).trans e
    · intro names kids k bad ns' ks' k' bad' h hz
      simp only [boundM] at h
      obtain ⟨⟨x1, k1, b1⟩, h1, h2⟩ := Option.bind_eq_some_iff.1 h
      simp only [Option.some.injEq, Prod.mk.injEq] at h2
      obtain ⟨_, _, rfl, rfl⟩ := h2
      have e1 := need_bz hz (show ({ data := #[110, 97, 109, 101] } : ByteArray).data.toList ≠ ({ data := #[110, 111, 110, 101] } : ByteArray).data.toList by decide)
      rw [e1.1, e1.2, dup_ge hz] at h1
      have hz2 : 0 ≤ bz l k (bz l k bad) := by rw [bz_self hz]; exact hz
      have e2 := need_bz hz2 (show ({ data := #[61] } : ByteArray).data.toList ≠ ({ data := #[110, 111, 110, 101] } : ByteArray).data.toList by decide)
      rw [e2.1, e2.2, bz_self hz] at h1
      rw [ih.ex _ _ _ _ _ h1 hz2, bz_self hz]
    · intro names kids k bad ns' ks' k' bad' h hz
      simp only [andM, isM_bz hz (show ({ data := #[97, 110, 100] } : ByteArray).data.toList ≠ ({ data := #[110, 111, 110, 101] } : ByteArray).data.toList by decide), Bool.false_eq_true, if_false, Option.some.injEq, Prod.mk.injEq] at h
      obtain ⟨_, _, rfl, rfl⟩ := h
      rfl
    · intro k bad x k' bad' h hz
      simp only [atomM, isM_bz hz (show ({ data := #[110, 97, 109, 101] } : ByteArray).data.toList ≠ ({ data := #[110, 111, 110, 101] } : ByteArray).data.toList by decide), isM_bz hz (show ({ data := #[110, 117, 109] } : ByteArray).data.toList ≠ ({ data := #[110, 111, 110, 101] } : ByteArray).data.toList by decide), Bool.or_false, Bool.false_eq_true, if_false] at h
      obtain ⟨⟨x1, k1, b1⟩, h1, h2⟩ := Option.bind_eq_some_iff.1 h
      have e1 := need_bz hz (show ({ data := #[40] } : ByteArray).data.toList ≠ ({ data := #[110, 111, 110, 101] } : ByteArray).data.toList by decide)
      rw [e1.1, e1.2] at h1
      have hz2 : 0 ≤ bz l k (bz l k bad) := by rw [bz_self hz]; exact hz
      have e2 := ih.ex _ _ _ _ _ h1 hz2
      rw [bz_self hz] at e2
      have hz3 : 0 ≤ bz l k1 b1 := by omega
      simp only [isM_bz hz3 (show ({ data := #[44] } : ByteArray).data.toList ≠ ({ data := #[110, 111, 110, 101] } : ByteArray).data.toList by decide), Bool.false_eq_true, if_false, Option.some.injEq, Prod.mk.injEq] at h2
      obtain ⟨_, rfl, rfl⟩ := h2
      rw [need_bz' hz3 (by decide), e2]
    · intro x k bad x' k' bad' h hz
      simp only [appM, isM_bz hz (show ({ data := #[110, 97, 109, 101] } : ByteArray).data.toList ≠ ({ data := #[110, 111, 110, 101] } : ByteArray).data.toList by decide), isM_bz hz (show ({ data := #[110, 117, 109] } : ByteArray).data.toList ≠ ({ data := #[110, 111, 110, 101] } : ByteArray).data.toList by decide), isM_bz hz (show ({ data := #[40] } : ByteArray).data.toList ≠ ({ data := #[110, 111, 110, 101] } : ByteArray).data.toList by decide), Bool.or_false, Bool.false_eq_true, if_false, Option.some.injEq, Prod.mk.injEq] at h
      obtain ⟨_, rfl, rfl⟩ := h
      rfl
end Go.Proofs.YtleenphlgbklmabGreatDoor

namespace Go.Proofs.YtleenphlgbklmabGreatDoor
open Go.RowKit

/-- thrown at a place; but for the reader all is as it was. -/
def ThrX (w : World) (rb : Nat) (loc : Int) (e : Ending) (w' : World) : Prop := ∃ b : Nat, e = thrown (.iface 83 (.pointer (some ⟨b, 0, none⟩))) ∧ (∃ n : Nat, loc = n ∧ w'.heap[b]? = some (.cells #[.int .i64 n] 94 (0, 0))) ∧ w.heap.size ≤ b ∧ Kq (· = rb) w w'
/-- behind a step of the reader of expressions: an answer, and where it stands; or thrown, where the fault is. -/
def PRet (Q : World → Value → Prop) (w : World) (rb : Nat) (s : ByteArray) (L : List Tk) (k' : Nat) (bad' : Int) (e : Ending) (w' : World) : Prop :=
  (bz L k' bad' < 0 → bad' = -1 ∧ ∃ v, e = .returned v ∧ Q w' v ∧ PAt w' rb s L k' ∧ Kq (· = rb) w w') ∧ (0 ≤ bz L k' bad' → ThrX w rb (bz L k' bad') e w')
theorem Kq.refl (S : Nat → Prop) (w : World) : Kq S w w := ⟨rfl, rfl, Nat.le_refl _, fun _ _ _ => rfl⟩
theorem ThrX.before {w0 w w' : World} {rb : Nat} {z : Int} {e : Ending} (h : ThrX w rb z e w') (hk : Kq (· = rb) w0 w) : ThrX w0 rb z e w' := by
  obtain ⟨b, h1, h2, h3, h4⟩ := h
  exact ⟨b, h1, h2, Nat.le_trans hk.size h3, hk.trans h4⟩
theorem ThrX.of {w w' : World} {rb loc : Nat} {e : Ending} (h : ThrS w loc e w') : ThrX w rb loc e w' := by
  obtain ⟨b, h1, h2, h3, h4⟩ := h
  exact ⟨b, h1, ⟨loc, rfl, h2⟩, h3, Kq.of_kept h4⟩
theorem PRet.thr {Q : World → Value → Prop} {w w' : World} {rb : Nat} {s : ByteArray} {L : List Tk} {k' : Nat} {bad' : Int} {e : Ending} {z : Int} (h : ThrX w rb z e w') (hz : bz L k' bad' = z) (h0 : 0 ≤ z) : PRet Q w rb s L k' bad' e w' :=
  ⟨fun q => by omega, fun _ => by rw [hz]; exact h⟩
theorem PRet.ret {Q : World → Value → Prop} {w w' : World} {rb : Nat} {s : ByteArray} {L : List Tk} {k' : Nat} {v : Value} (hq : Q w' v) (hP : PAt w' rb s L k') (hK : Kq (· = rb) w w') : PRet Q w rb s L k' (-1) (.returned v) w' :=
  ⟨fun _ => ⟨rfl, v, rfl, hq, hP, hK⟩, fun q => by rw [bz_ok (by omega) hP.nn] at q; omega⟩
theorem PAt.lt' {w : World} {rb : Nat} {s : ByteArray} {L : List Tk} {k : Nat} (h : PAt w rb s L k) : rb < w.heap.size := by
  obtain ⟨kd, e, _⟩ := h.ex
  exact lt_of_block e
theorem bz_at {w : World} {rb : Nat} {s : ByteArray} {L : List Tk} {k : Nat} (h : PAt w rb s L k) : bz L k (-1) = -1 := bz_ok (by omega) h.nn
theorem need_true {L : List Tk} {q : ByteArray} {k : Nat} (h : isM L q k (-1) = true) : takeK L q k (-1) = k + 1 ∧ needB L q k (-1) = -1 := by
  unfold takeK needB
  rw [h]
  exact ⟨rfl, rfl⟩
theorem need_false {L : List Tk} {q : ByteArray} {k : Nat} (h : isM L q k (-1) = false) : takeK L q k (-1) = k ∧ needB L q k (-1) = (tkAt L k).loc := by
  unfold takeK needB
  rw [h]
  exact ⟨rfl, rfl⟩

section
variable {s : ByteArray} {kws : List ByteArray} {L : List Tk} (hE : PEnv s kws L) {w : World} {rb k : Nat}
include hE
theorem px_adv (h : PAt w rb s L k) (h1 : k + 1 < L.length) : Calls Tryz.prog 78 #[.pointer (some ⟨rb, 0, none⟩)] w fun e w' => PRet (fun _ v => v = .tuple #[]) w rb s L (k + 1) (-1) e w' := by
  by_cases hn : (tkAt L (k + 1)).is = { data := #[110, 111, 110, 101] }
  · refine (at_advN hE h h1 hn).mono ?_
    intro e w' ht
    exact PRet.thr (ThrX.of ht) (bz_none (by omega) hn) (by omega)
  · refine (at_adv hE h h1 hn).mono ?_
    rintro e w' ⟨rfl, hK, hP⟩
    exact PRet.ret rfl hP (Kq.of_kp hK (fun _ e => e))
theorem px_expect (h : PAt w rb s L k) (q : ByteArray) (hq : q ∈ kws ∨ isSgn q) (h1 : q.data.toList ≠ ({ data := #[101, 110, 100] } : ByteArray).data.toList) (h2 : q.data.toList ≠ ({ data := #[110, 111, 110, 101] } : ByteArray).data.toList) : Calls Tryz.prog 148 #[.pointer (some ⟨rb, 0, none⟩), .string q] w fun e w' => PRet (fun _ v => v = .tuple #[]) w rb s L (takeK L q k (-1)) (needB L q k (-1)) e w' := by
  cases hM : isM L q k (-1)
  · rw [(need_false hM).1, (need_false hM).2]
    refine (at_expB hE h q hq hM).mono ?_
    intro e w' ht
    exact PRet.thr (ThrX.of ht) (bz_ge (by omega)) (by omega)
  · rw [(need_true hM).1, (need_true hM).2]
    have hk := isM_lt hE.good h.lt hM h1 h2
    by_cases hn : (tkAt L (k + 1)).is = { data := #[110, 111, 110, 101] }
    · refine (at_expN hE h q hq hk hM hn).mono ?_
      intro e w' ht
      exact PRet.thr (ThrX.of ht) (bz_none (by omega) hn) (by omega)
    · refine (at_exp hE h q hq hk hM hn).mono ?_
      rintro e w' ⟨rfl, hK, hP⟩
      exact PRet.ret rfl hP (Kq.of_kp hK (fun _ e => e))
end
end Go.Proofs.YtleenphlgbklmabGreatDoor
