import Derived.Test.YtleenphlgbklmaaDoorErrs
import Derived.Laws.OwnMore
namespace Go.Proofs.YtleenphlgbklmaaDoor
open Go.RowKit Go.Extern.Stop Go.Stop Go.Extern

/-- is the k-th error the j-th? -/
def sameB (i j : Nat) : Bool := decide (i = j)

/-- what has been gathered behind n questions. -/
def fl : Nat → List Value
  | 0 => []
  | n + 1 => fl n ++ [.bool (sameB (n / 8) (n % 8)), .bool (sameB (n / 8) (n % 8))]
theorem fl_len (n : Nat) : (fl n).length = 2 * n := by
  induction n with
  | zero => rfl
  | succ n ih => simp [fl, ih]; omega
theorem fl_step (k j : Nat) (hj : j < 8) : fl (8 * k + j) ++ [.bool (sameB k j), .bool (sameB k j)] = fl (8 * k + (j + 1)) := by
  have h1 : (8 * k + j) / 8 = k := by omega
  have h2 : (8 * k + j) % 8 = j := by omega
  show _ = fl ((8 * k + j) + 1)
  rw [fl, h1, h2]

/-- the sentinels in a world: where they are, that they differ. -/
structure Sens (A : Nat → Addr) (w : World) : Prop where
  blk : ∀ k, k < 8 → ∃ c t, w.heap[(A k).block]? = some (.cells c t (0, 0))
  ne : ∀ i j, i < 8 → j < 8 → i ≠ j → A i ≠ A j

theorem Sens.below {A : Nat → Addr} {w w' : World} {B : Nat} (h : Sens A w) (hB : w.heap.size ≤ B) (hb : Below B w w') : Sens A w' :=
  ⟨fun k hk => by
    obtain ⟨c, t, e⟩ := h.blk k hk
    have hlt := lt_of_block e
    exact ⟨c, t, (hb.block _ (by omega)).trans e⟩, h.ne⟩

theorem is_ij {A : Nat → Addr} {W : World} (h : Sens A W) (i j : Nat) (hi : i < 8) (hj : j < 8) :
    Calls Tryd.prog 5 #[.iface 68 (.pointer (some (A i))), .iface 68 (.pointer (some (A j)))] W fun e w' => e = .returned (.bool (sameB i j)) ∧ w' = W := by
  by_cases e : i = j
  · subst e
    have : sameB i i = true := by simp [sameB]
    rw [this]
    exact is_same _ _
  · obtain ⟨c, t, hc⟩ := h.blk i hi
    obtain ⟨c', t', hc'⟩ := h.blk j hj
    have : sameB i j = false := by simp [sameB, e]
    rw [this]
    exact is_other _ _ c c' t t' W (h.ne i j hi hj e) hc hc'
theorem isw_ij {A : Nat → Addr} {W : World} (h : Sens A W) (pb i j : Nat) (hi : i < 8) (hj : j < 8) (h1 : W.cell? ⟨pb, 0 + 1, none⟩ = some (.iface 68 (.pointer (some (A i))))) :
    Calls Tryd.prog 5 #[.iface 30 (.pointer (some ⟨pb, 0, none⟩)), .iface 68 (.pointer (some (A j)))] W fun e w' => e = .returned (.bool (sameB i j)) ∧ w' = W := by
  by_cases e : i = j
  · subst e
    have : sameB i i = true := by simp [sameB]
    rw [this]
    exact is_wrap_same pb 0 _ _ h1
  · obtain ⟨c, t, hc⟩ := h.blk i hi
    obtain ⟨c', t', hc'⟩ := h.blk j hj
    have : sameB i j = false := by simp [sameB, e]
    rw [this]
    exact is_wrap_other pb 0 _ _ c c' t t' W h1 (h.ne i j hi hj e) hc hc'

/-- a block of another type than the owned row's is not written by an append. -/
theorem row_ne {w : World} {base : Nat} {v : Value} {n : Nat} {xs : List Value} (h : w.ownsRow base 4 1 v n xs) {pb : Nat} {cs : Array Value} (hp : w.heap[pb]? = some (.cells cs 32 (0, 0))) : some pb ≠ v.ownBlock := by
  rcases h.2 with ⟨rfl, _⟩ | ⟨g, cap, cur, rfl, _, hg, _⟩
  · simp [Value.ownBlock]
  · simp only [Value.ownBlock]
    intro e
    obtain rfl := Option.some.inj e
    rw [hg] at hp
    simp at hp

/-- the inner round: what the append leaves. -/
theorem rel_inner {w2 wr w1 : World} {B pb k j : Nat} {v v' : Value} {cs : Array Value} (hj : j < 8) (hsz : B ≤ wr.heap.size)
    (hown : wr.ownsRow B 4 1 v (2 * (8 * k + j)) (fl (8 * k + j))) (hbel : Below B w2 wr) (hp : wr.heap[pb]? = some (.cells cs 32 (0, 0)))
    (hown' : w1.ownsRow B 4 1 v' (2 * (8 * k + j) + 2) (fl (8 * k + j) ++ [.bool (sameB k j), .bool (sameB k j)]))
    (hgrow : (wr.alloc (.cells #[.bool (sameB k j), .bool (sameB k j)] 4)).grownBy w1 v.ownBlock) :
    w1.ownsRow B 4 1 v' (2 * (8 * k + (j + 1))) (fl (8 * k + (j + 1))) ∧ Below B w2 w1 ∧ w1.heap[pb]? = some (.cells cs 32 (0, 0)) := by
  have hlt := lt_of_block hp
  refine ⟨?_, ?_, ?_⟩
  · have e : 2 * (8 * k + (j + 1)) = 2 * (8 * k + j) + 2 := by omega
    rw [e, ← fl_step k j hj]; exact hown'
  · exact (hbel.alloc hsz _).grown hgrow (by simp; omega) (fun q hq => (hown.lt q hq).1)
  · rw [hgrow.block pb (by simp; omega) (row_ne hown hp), Below.heap_alloc _ _ _ hlt]; exact hp
end Go.Proofs.YtleenphlgbklmaaDoor
