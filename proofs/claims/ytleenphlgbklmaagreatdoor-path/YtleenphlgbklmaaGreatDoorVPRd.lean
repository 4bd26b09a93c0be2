import Derived.Test.YtleenphlgbklmaaGreatDoorVPMatC
import Derived.Test.YtleenphlgbklmaaGreatDoorVPNms
import Derived.Test.YtleenphlgbklmaaGreatDoorVWCanon
import Derived.Test.YtleenphlgbklmaaGreatDoorVWParsed
set_option linter.unusedVariables false
set_option linter.unusedSimpArgs false
namespace Go.Proofs.YtleenphlgbklmaaGreatDoor
open Go.RowKit
open Go.Sort

theorem leB_trans (a b c : List UInt8) (h1 : decide (a ≤ b) = true) (h2 : decide (b ≤ c) = true) : decide (a ≤ c) = true := by
  simp only [decide_eq_true_eq] at *
  exact List.le_trans h1 h2
theorem leB_total (a b : List UInt8) : (decide (a ≤ b) || decide (b ≤ a)) = true := by
  simp only [Bool.or_eq_true, decide_eq_true_eq]
  exact List.le_total a b
theorem sorted_some {w : World} {mb : Nat} {kv : List (ByteArray × ByteArray)} (h : SM w mb kv) (hl : kv.length ≤ 1000) (hs : ∀ y, y ∈ kv → y.1.size ≤ maxLen) :
    Calls Tryz.prog 50 #[.func (.func 89) #[] #[.pointer (some ⟨w.heap.size, 0, none⟩)]] (w.alloc (.cells #[.map (some mb)] 94)) fun e w' => ∃ (v : Value) (sk : List (List UInt8)), e = .returned v ∧ sk.Perm (kv.map fun y => y.1.data.toList) ∧ sk.Pairwise (fun x y => decide (x ≤ y) = true) ∧ w'.ownsRow 0 9 1 v sk.length (sk.map encStr) ∧ Kept (w.alloc (.cells #[.map (some mb)] 94)) w' := by
  obtain ⟨D0, h1, h2, h3⟩ := h.owns hl hs
  refine (callsIn_wide.1 (Tryz.sortedKeysT mb kv.length D0 _ w h1 (by unfold maxLen; omega) (by omega))).mono ?_
  rintro e w' ⟨v, ss, rfl, hS, hrow, hnil, hb⟩
  refine ⟨v, ss.mergeSort (fun x y => decide (x ≤ y)), rfl, ((List.mergeSort_perm ss _).trans hS).trans h2, List.pairwise_mergeSort leB_trans leB_total ss, ?_, ⟨hb.os, hb.output, hb.size, hb.block⟩⟩
  rw [List.length_mergeSort]
  refine ⟨hrow.1, ?_⟩
  rcases hrow.2 with q | ⟨g, cap, cur, e1, _, rest⟩
  · exact .inl q
  · exact .inr ⟨g, cap, cur, e1, Nat.zero_le _, rest⟩
theorem Tryz.fldT (y : ByteArray) (w : World) : (Instr.field 102 (.agg #[.string y]) 0).run Tryz.prog w = .ok (.string y) w := by kernel_rfl
end Go.Proofs.YtleenphlgbklmaaGreatDoor

namespace Go.Proofs.YtleenphlgbklmaaGreatDoor

/-- all bytes from a place on. -/
def Rs (s : ByteArray) (i : Nat) (x : List UInt8) : Prop := s.data.toList.drop i = x
theorem Rs.cons {s : ByteArray} {i : Nat} {b : UInt8} {r : List UInt8} (h : Rs s i (b :: r)) : i < s.size ∧ chr s i = (b.toNat : Int) ∧ Rs s (i + 1) r := by
  unfold Rs at h
  have hl : i < s.data.toList.length := by
    apply Nat.lt_of_not_le
    intro hc
    rw [List.drop_eq_nil_of_le hc] at h
    cases h
  rw [List.drop_eq_getElem_cons hl] at h
  have hs : i < s.size := by simpa using hl
  injection h with h1 h2
  refine ⟨hs, ?_, h2⟩
  unfold chr
  rw [dif_pos hs]
  have : s[i] = b := by rw [← h1]; simp [ByteArray.getElem_eq_getElem_data]
  rw [this]
theorem Rs.nil {s : ByteArray} {i : Nat} (h : Rs s i []) : ¬ i < s.size := fun hi => by
  unfold Rs at h
  have := List.drop_eq_nil_iff.1 h
  simp at this
  have e : s.data.size = s.size := rfl
  omega
theorem Rs.app {s : ByteArray} : ∀ (x : List UInt8) {i : Nat} {r : List UInt8}, Rs s i (x ++ r) → Rs s (i + x.length) r
  | [], i, r, h => h
  | c :: x, i, r, h => by
    have := Rs.app x (Rs.cons h).2.2
    simpa [Nat.add_assoc, Nat.add_comm 1] using this
theorem Rs.ext {s : ByteArray} {x : List UInt8} {i : Nat} {r : List UInt8} (h : Rs s i (x ++ r)) : s.extract i (i + x.length) = ⟨x.toArray⟩ := by
  unfold Rs at h
  have h2 : (s.extract i (i + x.length)).data.toList = x := by
    simp only [ByteArray.data_extract, Array.toList_extract, List.extract_eq_take_drop]
    rw [h]
    simp
  apply ByteArray.ext
  apply Array.toList_inj.1
  rw [h2]
/-- from a place on come these tokens; where they end. -/
inductive Lx (s : ByteArray) (kws : List ByteArray) : Nat → List (ByteArray × ByteArray) → Nat → Prop
  | nil (i : Nat) : Lx s kws i [] i
  | cons {i j k : Nat} {is x : ByteArray} {ps : List (ByteArray × ByteArray)} : tok1 s kws (run blI s i) = (⟨is, x, run blI s i⟩, j) → lastT ⟨is, x, run blI s i⟩ = false → Lx s kws j ps k → Lx s kws i ((is, x) :: ps) k
theorem Lx.app {s : ByteArray} {kws : List ByteArray} {i j k : Nat} {ps qs : List (ByteArray × ByteArray)} (h : Lx s kws i ps j) (g : Lx s kws j qs k) : Lx s kws i (ps ++ qs) k := by
  induction h with
  | nil i => exact g
  | cons h1 h2 _ ih => exact .cons h1 h2 (ih g)
theorem Lx.bl {s : ByteArray} {kws : List ByteArray} {i k : Nat} {ps : List (ByteArray × ByteArray)} {r : List UInt8} (hb : Rs s i (32 :: r)) (hn : ps ≠ []) (h : Lx s kws (i + 1) ps k) : Lx s kws i ps k := by
  have h1 := Rs.cons hb
  have e : run blI s i = run blI s (i + 1) := run_step blI s i h1.1 (by rw [h1.2.1]; rfl)
  cases h with
  | nil => exact absurd rfl hn
  | cons a b c => exact .cons (by rw [e]; exact a) (by rw [e]; exact b) c
def MatL (L : List Tk) (k : Nat) (ps : List (ByteArray × ByteArray)) : Prop := ∀ j p, ps[j]? = some p → (tkAt L (k + j)).is = p.1 ∧ (tkAt L (k + j)).s = p.2
theorem MatL.app {L : List Tk} {k : Nat} {ps qs : List (ByteArray × ByteArray)} (h : MatL L k (ps ++ qs)) : MatL L k ps ∧ MatL L (k + ps.length) qs := by
  refine ⟨fun j p hj => h j p ?_, fun j p hj => ?_⟩
  · have := (List.getElem?_eq_some_iff.1 hj).1
    rw [List.getElem?_append_left this]
    exact hj
  · have := h (ps.length + j) p (by rw [List.getElem?_append_right (by omega)]; simpa using hj)
    rw [Nat.add_assoc]
    exact this
theorem MatL.cons {L : List Tk} {k : Nat} {p : ByteArray × ByteArray} {ps : List (ByteArray × ByteArray)} (h : MatL L k (p :: ps)) : (tkAt L k).is = p.1 ∧ (tkAt L k).s = p.2 ∧ MatL L (k + 1) ps := by
  have h0 := h 0 p rfl
  refine ⟨h0.1, h0.2, fun j q hj => ?_⟩
  have := h (j + 1) q (by simpa using hj)
  rw [show k + 1 + j = k + (j + 1) from by omega]
  exact this
theorem Lx.le {s : ByteArray} {kws : List ByteArray} {i j : Nat} {ps : List (ByteArray × ByteArray)} (h : Lx s kws i ps j) : i + ps.length ≤ j := by
  induction h with
  | nil i => simp
  | @cons i j k is x ps h1 h2 _ ih =>
    have g1 := tok1_gt s kws (run blI s i) (by rw [h1]; exact h2)
    have g2 := run_ge blI s i
    have e : (tok1 s kws (run blI s i)).2 = j := by rw [h1]
    have e2 : (tok1 s kws (run blI s i)).2 = clsK s (run blI s i) := rfl
    simp only [List.length_cons]
    omega
end Go.Proofs.YtleenphlgbklmaaGreatDoor

namespace Go.Proofs.YtleenphlgbklmaaGreatDoor

/-- variables in the order in which they stand first. -/
inductive FO : Ty → Nat → Nat → Prop
  | old (n m : Nat) : n < m → FO (.mk { data := #[] } n []) m m
  | new (m : Nat) : FO (.mk { data := #[] } m []) m (m + 1)
  | int (m : Nat) : FO (.mk { data := #[105, 110, 116] } 0 []) m m
  | bool (m : Nat) : FO (.mk { data := #[98, 111, 111, 108] } 0 []) m m
  | list (a : Ty) (m k : Nat) : FO a m k → FO (.mk { data := #[108, 105, 115, 116] } 0 [a]) m k
  | pair (a b : Ty) (m j k : Nat) : FO a m j → FO b j k → FO (.mk { data := #[112, 97, 105, 114] } 0 [a, b]) m k
  | fn (a b : Ty) (m j k : Nat) : FO a m j → FO b j k → FO (.mk { data := #[102, 117, 110] } 0 [a, b]) m k
theorem FO.le {t : Ty} {m k : Nat} (h : FO t m k) : m ≤ k := by induction h <;> omega
theorem FO.sz {t : Ty} {m k : Nat} (h : FO t m k) : k ≤ m + sz t := by
  induction h with
  | old n m h => omega
  | new m => simp only [Go.Proofs.YtleenphlgbklmaaGreatDoor.sz]; omega
  | int m => omega
  | bool m => omega
  | list a m k _ ih => simp only [Go.Proofs.YtleenphlgbklmaaGreatDoor.sz, szs]; omega
  | pair a b m j k _ _ ih ih2 => simp only [Go.Proofs.YtleenphlgbklmaaGreatDoor.sz, szs]; omega
  | fn a b m j k _ _ ih ih2 => simp only [Go.Proofs.YtleenphlgbklmaaGreatDoor.sz, szs]; omega
theorem FO.wt {t : Ty} {m k : Nat} (h : FO t m k) : WT k t := by
  induction h with
  | old n m h => exact .var n h
  | new m => exact .var m (by omega)
  | int m => exact .int
  | bool m => exact .bool
  | list a m k _ ih => exact .list a ih
  | pair a b m j k _ h2 ih ih2 => exact .pair a b (ih.up h2.le) ih2
  | fn a b m j k _ h2 ih ih2 => exact .fn a b (ih.up h2.le) ih2
theorem FO.vars {t : Ty} {m k : Nat} (h : FO t m k) : varsM t (List.range m) = List.range k := by
  induction h with
  | old n m h => rw [varsM_leaf, if_pos (by unfold inB; simpa using h)]
  | new m => rw [varsM_leaf, if_neg (by unfold inB; simp), List.range_succ]
  | int m => simp [varsM, varsMs]
  | bool m => simp [varsM, varsMs]
  | list a m k _ ih => rw [varsM_list]; exact ih
  | pair a b m j k _ _ ih ih2 => rw [varsM_pair, ih]; exact ih2
  | fn a b m j k _ _ ih ih2 => rw [varsM_fn, ih]; exact ih2
theorem isM_of {L : List Tk} {k : Nat} {x : ByteArray} (h : (tkAt L k).is = x) (w : ByteArray) : isM L w k (-1) = sameS x w := by
  unfold isM sameS
  rw [h]
  rfl
/-- how a type is read where these tokens stand. -/
def RdA (own : List ByteArray) (t : Ty) (m k : Nat) (ps : List (ByteArray × ByteArray)) : Prop :=
  ∀ (L : List Tk) (n q : Nat), MatL L q ps → sameS (tkAt L (q + ps.length)).is { data := #[45, 62] } = false → ps.length + 1 ≤ n → arrowM L n (own.take m) q (-1) = some (t, own.take k, q + ps.length, -1)
def RdN (own : List ByteArray) (t : Ty) (m k : Nat) (ps : List (ByteArray × ByteArray)) : Prop :=
  ∀ (L : List Tk) (n q : Nat), MatL L q ps → ps.length ≤ n → oneM L n (own.take m) q (-1) = some (t, own.take k, q + ps.length, -1)
theorem RdN.arrow {own : List ByteArray} {t : Ty} {m k : Nat} {ps : List (ByteArray × ByteArray)} (h : RdN own t m k ps) : RdA own t m k ps := by
  intro L n q hM ha hn
  cases n with
  | zero => omega
  | succ n =>
    rw [arrowM, h L n q hM (by omega)]
    simp only [Option.bind_some]
    rw [if_neg]
    rw [isM_of rfl, ha]
    simp
end Go.Proofs.YtleenphlgbklmaaGreatDoor

namespace Go.Proofs.YtleenphlgbklmaaGreatDoor
open Go.RowKit

theorem kinds_same : kkinds = tyWords := rfl
end Go.Proofs.YtleenphlgbklmaaGreatDoor

namespace Go.Proofs.YtleenphlgbklmaaGreatDoor
open Go.RowKit

/-- what a text is as a type: none, by a fault; or one, with its names. -/
inductive RdO where
  | bad (what loc : Int) | good (t : Ty) (names : List ByteArray)
def RdO.ok : RdO → Prop
  | .bad what _ => 0 < what
  | .good t names => sz t ≤ 120 ∧ WT names.length t ∧ NW names ∧ (∀ m, m ∈ names → 0 < m.size ∧ m.size ≤ 300) ∧ (∀ i, i < names.length → Occ i t) ∧ names.length ≤ 301
end Go.Proofs.YtleenphlgbklmaaGreatDoor
