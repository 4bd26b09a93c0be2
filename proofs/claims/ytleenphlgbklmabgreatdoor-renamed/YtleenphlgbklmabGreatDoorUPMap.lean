import Derived.Test.YtleenphlgbklmabGreatDoorUEndA
import Derived.Test.YtleenphlgbklmabGreatDoorCards
import Derived.Test.YtleenphlgbklmabGreatDoorUWCanon
import Derived.Test.YtleenphlgbklmabGreatDoorUWParsed
import Derived.Test.YtleenphlgbklmabGreatDoorUPTy
set_option linter.unusedVariables false
set_option linter.unusedSimpArgs false
namespace Go.Proofs.YtleenphlgbklmabGreatDoor
open Go.RowKit

theorem and2 {a b : Bool} (ha : a = true) (hb : b = true) : (a && b) = true := by rw [ha, hb]; rfl
set_option maxRecDepth 100000 in
set_option maxHeartbeats 4000000 in
theorem renamed_closed : joinedFacts Tryz.checked.prog 3 Tryz.f3 Rows.renamedSpec Rows.renamedRow = true := by
  unfold joinedFacts
  refine (and2 (and2 (and2 (and2 (and2 (and2 (and2 (and2 (and2 (and2 (and2 (and2 (and2 (and2 (and2 (and2 (and2 (and2 (and2 (and2 (and2 (and2 (and2 (and2 (and2 (and2 (and2 (and2 (and2 (and2 (and2 ?_ ?_) ?_) ?_) ?_) ?_) ?_) ?_) ?_) ?_) ?_) ?_) ?_) ?_) ?_) ?_) ?_) ?_) ?_) ?_) ?_) ?_) ?_) ?_) ?_) ?_) ?_) ?_) ?_) ?_) ?_) ?_)
  all_goals (as_aux_lemma => kernel_rfl)
end Go.Proofs.YtleenphlgbklmabGreatDoor

namespace Go.Proofs.YtleenphlgbklmabGreatDoor

/-- all bytes from a place on. -/
def Rs (s : ByteArray) (i : Nat) (x : List UInt8) : Prop := s.data.toList.drop i = x
theorem Rs.cons {s : ByteArray} {i : Nat} {b : UInt8} {r : List UInt8} (h : Rs s i (b :: r)) : i < s.size ∧ chr s i = (b.toNat : Int) ∧ Rs s (i + 1) r := by
  unfold Rs at h
  have hl : i < s.data.toList.length := by
    apply Nat.lt_of_not_le
    intro hc
    rw [List.drop_eq_nil_of_le hc] at h
    cases h
  rw [List.drop_eq_getElem_cons hl] at h
  have hs : i < s.size := by simpa using hl
  injection h with h1 h2
  refine ⟨hs, ?_, h2⟩
  unfold chr
  rw [dif_pos hs]
  have : s[i] = b := by rw [← h1]; simp [ByteArray.getElem_eq_getElem_data]
  rw [this]
theorem Rs.nil {s : ByteArray} {i : Nat} (h : Rs s i []) : ¬ i < s.size := fun hi => by
  unfold Rs at h
  have := List.drop_eq_nil_iff.1 h
  simp at this
  have e : s.data.size = s.size := rfl
  omega
theorem Rs.app {s : ByteArray} : ∀ (x : List UInt8) {i : Nat} {r : List UInt8}, Rs s i (x ++ r) → Rs s (i + x.length) r
  | [], i, r, h => h
  | c :: x, i, r, h => by
    have := Rs.app x (Rs.cons h).2.2
    simpa [Nat.add_assoc, Nat.add_comm 1] using this
theorem Rs.ext {s : ByteArray} {x : List UInt8} {i : Nat} {r : List UInt8} (h : Rs s i (x ++ r)) : s.extract i (i + x.length) = ⟨x.toArray⟩ := by
  unfold Rs at h
  have h2 : (s.extract i (i + x.length)).data.toList = x := by
    simp only [ByteArray.data_extract, Array.toList_extract, List.extract_eq_take_drop]
    rw [h]
    simp
  apply ByteArray.ext
  apply Array.toList_inj.1
  rw [h2]
/-- what stops a run. -/
def Stp (p : Int → Bool) (r : List UInt8) : Prop := r = [] ∨ ∃ c q, r = c :: q ∧ p (c.toNat : Int) = false
theorem run_word (p : Int → Bool) (s : ByteArray) : ∀ (x : List UInt8) (i : Nat) (r : List UInt8), Rs s i (x ++ r) → (∀ c, c ∈ x → p (c.toNat : Int) = true) → Stp p r → run p s i = i + x.length
  | [], i, r, h, _, hr => by
    refine run_stop p s i (fun hi => ?_)
    rcases hr with rfl | ⟨c, q, rfl, e⟩
    · exact absurd hi (Rs.nil h)
    · rw [(Rs.cons h).2.1]; exact e
  | c :: x, i, r, h, hx, hr => by
    have hc := Rs.cons h
    rw [run_step p s i hc.1 (by rw [hc.2.1]; exact hx c (by simp)), run_word p s x (i + 1) r hc.2.2 (fun d hd => hx d (by simp [hd])) hr]
    simp
    omega
theorem kw_other (x is : ByteArray) (h : (is.data.toList == ({ data := #[110, 97, 109, 101] } : ByteArray).data.toList) = false) : ∀ kws : List ByteArray, kws.foldl (kwStep x) is = is
  | [] => rfl
  | w :: ws => by
    have e : kwStep x is w = is := by unfold kwStep; rw [h]; rfl
    rw [List.foldl_cons, e]
    exact kw_other x is h ws
theorem tok_word (s : ByteArray) (c : UInt8) (x : List UInt8) (i : Nat) (r : List UInt8) (h : Rs s i ((c :: x) ++ r)) (hc : lowI (c.toNat : Int) = true) (hx : ∀ d, d ∈ c :: x → lfI (d.toNat : Int) = true) (hl : (c :: x).length ≤ 8) (hr : Stp lfI r) (kws : List ByteArray) :
    tok1 s kws i = (⟨kws.foldl (kwStep ⟨(c :: x).toArray⟩) { data := #[110, 97, 109, 101] }, ⟨(c :: x).toArray⟩, i⟩, i + (c :: x).length) := by
  have h1 := Rs.cons (r := x ++ r) h
  have hk : clsK s i = i + (c :: x).length := by
    unfold clsK
    rw [if_pos h1.1, h1.2.1, if_pos hc]
    exact run_word lfI s (c :: x) i r h hx hr
  have hi : clsI s i = { data := #[110, 97, 109, 101] } := by
    unfold clsI
    rw [if_pos h1.1, h1.2.1, if_pos hc]
  have hb : clsB { data := #[110, 97, 109, 101] } (i + (c :: x).length - i) = { data := #[110, 97, 109, 101] } := by
    unfold clsB
    rw [if_neg]
    simp at hl ⊢
    intro _
    omega
  unfold tok1
  rw [hk, hi, hb, Rs.ext h]
theorem tok_sign (s : ByteArray) (c : UInt8) (i : Nat) (r : List UInt8) (h : Rs s i (c :: r)) (hc : isSign (c.toNat : Int) = true) (kws : List ByteArray) :
    tok1 s kws i = (⟨⟨#[c]⟩, ⟨#[c]⟩, i⟩, i + 1) := by
  have h1 := Rs.cons h
  have hv : c = 61 ∨ c = 40 ∨ c = 41 ∨ c = 44 ∨ c = 91 ∨ c = 93 := by
    unfold isSign at hc
    simp only [Bool.or_eq_true, beq_iff_eq] at hc
    have : ∀ k : Nat, k < 256 → (c.toNat : Int) = k → c = UInt8.ofNat k := fun k hk e => by
      apply UInt8.toNat_inj.1
      rw [UInt8.toNat_ofNat']
      omega
    rcases hc with ((((e | e) | e) | e) | e) | e
    · exact .inl (this 61 (by omega) e)
    · exact .inr (.inl (this 40 (by omega) e))
    · exact .inr (.inr (.inl (this 41 (by omega) e)))
    · exact .inr (.inr (.inr (.inl (this 44 (by omega) e))))
    · exact .inr (.inr (.inr (.inr (.inl (this 91 (by omega) e)))))
    · exact .inr (.inr (.inr (.inr (.inr (this 93 (by omega) e)))))
  have hlo : lowI (c.toNat : Int) = false ∧ figI (c.toNat : Int) = false ∧ ¬ (c.toNat : Int) = 45 := by
    rcases hv with rfl | rfl | rfl | rfl | rfl | rfl <;> decide
  have he := Rs.ext (x := [c]) (r := r) h
  simp only [List.length_cons, List.length_nil, Nat.zero_add] at he
  have hk : clsK s i = i + 1 := by
    unfold clsK
    rw [if_pos h1.1, h1.2.1, hlo.1, hlo.2.1, hc]
    simp [hlo.2.2]
  have hi : clsI s i = ⟨#[c]⟩ := by
    unfold clsI
    rw [if_pos h1.1, h1.2.1, hlo.1, hlo.2.1, hc]
    simp only [Bool.false_eq_true, if_false, hlo.2.2, false_and, if_true]
    exact he
  have hb : ∀ n, clsB ⟨#[c]⟩ n = ⟨#[c]⟩ := fun n => by
    unfold clsB isNN
    rcases hv with rfl | rfl | rfl | rfl | rfl | rfl <;> rfl
  unfold tok1
  rw [hk, hi, hb, he]
  rw [kw_other]
  rcases hv with rfl | rfl | rfl | rfl | rfl | rfl <;> rfl
theorem tok_arr (s : ByteArray) (i : Nat) (r : List UInt8) (h : Rs s i (45 :: 62 :: r)) (kws : List ByteArray) : tok1 s kws i = (⟨{ data := #[45, 62] }, { data := #[45, 62] }, i⟩, i + 2) := by
  have h1 := Rs.cons h
  have h2 := Rs.cons h1.2.2
  have he := Rs.ext (x := [45, 62]) (r := r) h
  simp only [List.length_cons, List.length_nil] at he
  have c1 : chr s i = 45 := h1.2.1
  have c2 : chr s (i + 1) = 62 := h2.2.1
  have hk : clsK s i = i + 2 := by
    unfold clsK
    rw [if_pos h1.1, c1, if_neg (by decide), if_neg (by decide), if_pos ⟨rfl, h2.1, c2⟩]
  have hi : clsI s i = { data := #[45, 62] } := by
    unfold clsI
    rw [if_pos h1.1, c1, if_neg (by decide), if_neg (by decide), if_pos ⟨rfl, h2.1, c2⟩]
  have hb : ∀ n, clsB { data := #[45, 62] } n = { data := #[45, 62] } := fun n => rfl
  unfold tok1
  rw [hk, hi, hb, he]
  rw [kw_other _ _ (by rfl)]
/-- from a place on come these tokens; where they end. -/
inductive Lx (s : ByteArray) (kws : List ByteArray) : Nat → List (ByteArray × ByteArray) → Nat → Prop
  | nil (i : Nat) : Lx s kws i [] i
  | cons {i j k : Nat} {is x : ByteArray} {ps : List (ByteArray × ByteArray)} : tok1 s kws (run blI s i) = (⟨is, x, run blI s i⟩, j) → lastT ⟨is, x, run blI s i⟩ = false → Lx s kws j ps k → Lx s kws i ((is, x) :: ps) k
theorem Lx.app {s : ByteArray} {kws : List ByteArray} {i j k : Nat} {ps qs : List (ByteArray × ByteArray)} (h : Lx s kws i ps j) (g : Lx s kws j qs k) : Lx s kws i (ps ++ qs) k := by
  induction h with
  | nil i => exact g
  | cons h1 h2 _ ih => exact .cons h1 h2 (ih g)
theorem Lx.bl {s : ByteArray} {kws : List ByteArray} {i k : Nat} {ps : List (ByteArray × ByteArray)} {r : List UInt8} (hb : Rs s i (32 :: r)) (hn : ps ≠ []) (h : Lx s kws (i + 1) ps k) : Lx s kws i ps k := by
  have h1 := Rs.cons hb
  have e : run blI s i = run blI s (i + 1) := run_step blI s i h1.1 (by rw [h1.2.1]; rfl)
  cases h with
  | nil => exact absurd rfl hn
  | cons a b c => exact .cons (by rw [e]; exact a) (by rw [e]; exact b) c
theorem run_bl0 {s : ByteArray} {i : Nat} {c : UInt8} {r : List UInt8} (h : Rs s i (c :: r)) (hc : blI (c.toNat : Int) = false) : run blI s i = i :=
  run_stop blI s i (fun _ => by rw [(Rs.cons h).2.1]; exact hc)
def MatL (L : List Tk) (k : Nat) (ps : List (ByteArray × ByteArray)) : Prop := ∀ j p, ps[j]? = some p → (tkAt L (k + j)).is = p.1 ∧ (tkAt L (k + j)).s = p.2
theorem MatL.app {L : List Tk} {k : Nat} {ps qs : List (ByteArray × ByteArray)} (h : MatL L k (ps ++ qs)) : MatL L k ps ∧ MatL L (k + ps.length) qs := by
  refine ⟨fun j p hj => h j p ?_, fun j p hj => ?_⟩
  · have := (List.getElem?_eq_some_iff.1 hj).1
    rw [List.getElem?_append_left this]
    exact hj
  · have := h (ps.length + j) p (by rw [List.getElem?_append_right (by omega)]; simpa using hj)
    rw [Nat.add_assoc]
    exact this
theorem MatL.cons {L : List Tk} {k : Nat} {p : ByteArray × ByteArray} {ps : List (ByteArray × ByteArray)} (h : MatL L k (p :: ps)) : (tkAt L k).is = p.1 ∧ (tkAt L k).s = p.2 ∧ MatL L (k + 1) ps := by
  have h0 := h 0 p rfl
  refine ⟨h0.1, h0.2, fun j q hj => ?_⟩
  have := h (j + 1) q (by simpa using hj)
  rw [show k + 1 + j = k + (j + 1) from by omega]
  exact this
theorem Lx.le {s : ByteArray} {kws : List ByteArray} {i j : Nat} {ps : List (ByteArray × ByteArray)} (h : Lx s kws i ps j) : i + ps.length ≤ j := by
  induction h with
  | nil i => simp
  | @cons i j k is x ps h1 h2 _ ih =>
    have g1 := tok1_gt s kws (run blI s i) (by rw [h1]; exact h2)
    have g2 := run_ge blI s i
    have e : (tok1 s kws (run blI s i)).2 = j := by rw [h1]
    have e2 : (tok1 s kws (run blI s i)).2 = clsK s (run blI s i) := rfl
    simp only [List.length_cons]
    omega
theorem lex_all {s : ByteArray} {kws : List ByteArray} {i j : Nat} {ps : List (ByteArray × ByteArray)} (h : Lx s kws i ps j) : ∀ F, j = s.size → ps.length < F → MatL (toksF s kws F i) 0 ps ∧ (tkAt (toksF s kws F i) ps.length).is = { data := #[101, 110, 100] } ∧ (toksF s kws F i).length = ps.length + 1 := by
  induction h with
  | nil i =>
    intro F hj hF
    cases F with
    | zero => simp at hF
    | succ F =>
      have hr : run blI s i = i := run_stop blI s i (fun h => by omega)
      have hI : clsI s i = { data := #[101, 110, 100] } := by unfold clsI; rw [if_neg (by omega)]
      have hK : clsK s i = i := by unfold clsK; rw [if_neg (by omega)]
      have ht : (tok1 s kws i).1.is = { data := #[101, 110, 100] } := by
        unfold tok1
        rw [hI, hK]
        have : clsB { data := #[101, 110, 100] } (i - i) = { data := #[101, 110, 100] } := rfl
        rw [this]
        exact kw_other _ _ (by rfl) kws
      have hl : lastT (tok1 s kws i).1 = true := by unfold lastT; rw [ht]; rfl
      rw [toksF, hr, if_pos hl]
      exact ⟨fun j p hp => by simp at hp, by simpa [tkAt] using ht, rfl⟩
  | @cons i j k is x ps h1 h2 _ ih =>
    intro F hj hF
    cases F with
    | zero => simp at hF
    | succ F =>
      obtain ⟨m1, m2, m3⟩ := ih F hj (by simp at hF; omega)
      have hl : lastT (tok1 s kws (run blI s i)).1 = false := by rw [h1]; exact h2
      have e : toksF s kws (F + 1) i = ⟨is, x, run blI s i⟩ :: toksF s kws F j := by
        rw [toksF, if_neg (by rw [hl]; simp), h1]
      rw [e]
      refine ⟨fun q p hp => ?_, ?_, by simp [m3]⟩
      · cases q with
        | zero => simp at hp; subst hp; simp [tkAt]
        | succ q =>
          have := m1 q p (by simpa using hp)
          rw [Nat.zero_add] at this ⊢
          rw [tkAt_succ]
          exact this
      · simp only [List.length_cons]
        rw [tkAt_succ]
        exact m2
end Go.Proofs.YtleenphlgbklmabGreatDoor

namespace Go.Proofs.YtleenphlgbklmabGreatDoor

/-- variables in the order in which they stand first. -/
inductive FO : Ty → Nat → Nat → Prop
  | old (n m : Nat) : n < m → FO (.mk { data := #[] } n []) m m
  | new (m : Nat) : FO (.mk { data := #[] } m []) m (m + 1)
  | int (m : Nat) : FO (.mk { data := #[105, 110, 116] } 0 []) m m
  | bool (m : Nat) : FO (.mk { data := #[98, 111, 111, 108] } 0 []) m m
  | list (a : Ty) (m k : Nat) : FO a m k → FO (.mk { data := #[108, 105, 115, 116] } 0 [a]) m k
  | pair (a b : Ty) (m j k : Nat) : FO a m j → FO b j k → FO (.mk { data := #[112, 97, 105, 114] } 0 [a, b]) m k
  | fn (a b : Ty) (m j k : Nat) : FO a m j → FO b j k → FO (.mk { data := #[102, 117, 110] } 0 [a, b]) m k
theorem FO.le {t : Ty} {m k : Nat} (h : FO t m k) : m ≤ k := by induction h <;> omega
theorem FO.sz {t : Ty} {m k : Nat} (h : FO t m k) : k ≤ m + sz t := by
  induction h with
  | old n m h => omega
  | new m => simp only [Go.Proofs.YtleenphlgbklmabGreatDoor.sz]; omega
  | int m => omega
  | bool m => omega
  | list a m k _ ih => simp only [Go.Proofs.YtleenphlgbklmabGreatDoor.sz, szs]; omega
  | pair a b m j k _ _ ih ih2 => simp only [Go.Proofs.YtleenphlgbklmabGreatDoor.sz, szs]; omega
  | fn a b m j k _ _ ih ih2 => simp only [Go.Proofs.YtleenphlgbklmabGreatDoor.sz, szs]; omega
theorem FO.wt {t : Ty} {m k : Nat} (h : FO t m k) : WT k t := by
  induction h with
  | old n m h => exact .var n h
  | new m => exact .var m (by omega)
  | int m => exact .int
  | bool m => exact .bool
  | list a m k _ ih => exact .list a ih
  | pair a b m j k _ h2 ih ih2 => exact .pair a b (ih.up h2.le) ih2
  | fn a b m j k _ h2 ih ih2 => exact .fn a b (ih.up h2.le) ih2
theorem FO.shift {t : Ty} {m k : Nat} (h : FO t m k) (q : Nat) : FO t (max m q) (max k q) := by
  induction h with
  | old n m h => exact .old n _ (by omega)
  | new m =>
    by_cases hq : m < q
    · rw [show max m q = q from by omega, show max (m + 1) q = q from by omega]
      exact .old m q hq
    · rw [show max m q = m from by omega, show max (m + 1) q = m + 1 from by omega]
      exact .new m
  | int m => exact .int _
  | bool m => exact .bool _
  | list a m k _ ih => exact .list a _ _ ih
  | pair a b m j k _ _ ih ih2 => exact .pair a b _ _ _ ih ih2
  | fn a b m j k _ _ ih ih2 => exact .fn a b _ _ _ ih ih2
theorem FO.vars {t : Ty} {m k : Nat} (h : FO t m k) : varsM t (List.range m) = List.range k := by
  induction h with
  | old n m h => rw [varsM_leaf, if_pos (by unfold inB; simpa using h)]
  | new m => rw [varsM_leaf, if_neg (by unfold inB; simp), List.range_succ]
  | int m => simp [varsM, varsMs]
  | bool m => simp [varsM, varsMs]
  | list a m k _ ih => rw [varsM_list]; exact ih
  | pair a b m j k _ _ ih ih2 => rw [varsM_pair, ih]; exact ih2
  | fn a b m j k _ _ ih ih2 => rw [varsM_fn, ih]; exact ih2
/-- a name as the writer of variables gives them. -/
structure OwN (m : ByteArray) : Prop where
  nz : ∃ c x, m.data.toList = c :: x ∧ lowI (c.toNat : Int) = true
  lf : ∀ d, d ∈ m.data.toList → lfI (d.toNat : Int) = true
  sz : m.data.toList.length ≤ 8
  ni : sameS m { data := #[105, 110, 116] } = false
  nb : sameS m { data := #[98, 111, 111, 108] } = false
theorem isM_of {L : List Tk} {k : Nat} {x : ByteArray} (h : (tkAt L k).is = x) (w : ByteArray) : isM L w k (-1) = sameS x w := by
  unfold isM sameS
  rw [h]
  rfl
theorem take_of {L : List Tk} {k : Nat} {x : ByteArray} (h : (tkAt L k).is = x) : takeK L x k (-1) = k + 1 ∧ needB L x k (-1) = -1 := by
  have e : isM L x k (-1) = true := by rw [isM_of h]; exact (sameS_iff x x).2 rfl
  unfold takeK needB
  rw [e]
  exact ⟨rfl, rfl⟩
/-- how a type is read where these tokens stand. -/
def RdA (own : List ByteArray) (t : Ty) (m k : Nat) (ps : List (ByteArray × ByteArray)) : Prop :=
  ∀ (L : List Tk) (n q : Nat), MatL L q ps → sameS (tkAt L (q + ps.length)).is { data := #[45, 62] } = false → ps.length + 1 ≤ n → arrowM L n (own.take m) q (-1) = some (t, own.take k, q + ps.length, -1)
def RdN (own : List ByteArray) (t : Ty) (m k : Nat) (ps : List (ByteArray × ByteArray)) : Prop :=
  ∀ (L : List Tk) (n q : Nat), MatL L q ps → ps.length ≤ n → oneM L n (own.take m) q (-1) = some (t, own.take k, q + ps.length, -1)
theorem RdN.arrow {own : List ByteArray} {t : Ty} {m k : Nat} {ps : List (ByteArray × ByteArray)} (h : RdN own t m k ps) : RdA own t m k ps := by
  intro L n q hM ha hn
  cases n with
  | zero => omega
  | succ n =>
    rw [arrowM, h L n q hM (by omega)]
    simp only [Option.bind_some]
    rw [if_neg]
    rw [isM_of rfl, ha]
    simp
def okN (own : List ByteArray) : Prop := own.Nodup ∧ ∀ m, m ∈ own → OwN m
theorem name_find {own : List ByteArray} (h : own.Nodup) {n m : Nat} (hn : n < m) (hm : m ≤ own.length) : (own.take m).findIdx? (fun x => sameS x (own.getD n { data := #[] })) = some n := by
  rw [List.findIdx?_eq_some_iff_getElem]
  refine ⟨by simp; omega, ?_, fun j hj => ?_⟩
  · have : n < own.length := by omega
    simp [List.getD, this, (sameS_iff _ _).2]
  · have h1 : j < own.length := by omega
    have h2 : n < own.length := by omega
    simp only [List.getElem_take, List.getD, List.getElem?_eq_getElem h2, Option.getD_some, Bool.not_eq_true]
    cases e : sameS own[j] own[n] with
    | false => rfl
    | true => exact absurd ((sameS_iff _ _).1 e) ((List.pairwise_iff_getElem.1 h) j n h1 h2 hj)
theorem name_none {own : List ByteArray} (h : own.Nodup) {m : Nat} (hm : m < own.length) : (own.take m).findIdx? (fun x => sameS x (own.getD m { data := #[] })) = none := by
  rw [List.findIdx?_eq_none_iff]
  intro x hx
  obtain ⟨j, hj, rfl⟩ := List.mem_iff_getElem.1 hx
  simp at hj
  simp only [List.getElem_take, List.getD, List.getElem?_eq_getElem hm, Option.getD_some]
  cases e : sameS own[j] own[m] with
  | false => rfl
  | true => exact absurd ((sameS_iff _ _).1 e) ((List.pairwise_iff_getElem.1 h) j m (by omega) hm (by omega))
theorem rd_name {own : List ByteArray} (h : own.Nodup) {n m k : Nat} (hf : FO (.mk { data := #[] } n []) m k) (hk : k ≤ own.length) : RdN own (.mk { data := #[] } n []) m k [({ data := #[110, 97, 109, 101] }, own.getD n { data := #[] })] := by
  intro L f q hM hl
  obtain ⟨h1, h2, _⟩ := hM.cons
  have h1 : (tkAt L q).is = { data := #[110, 97, 109, 101] } := h1
  have h2 : (tkAt L q).s = own.getD n { data := #[] } := h2
  cases f with
  | zero => simp at hl
  | succ f =>
    rw [oneM, isM_of h1, isM_of h1, isM_of h1, isM_of h1]
    rw [if_neg (by decide), if_neg (by decide), if_neg (by decide), if_neg (by decide), h2, (take_of h1).1, (take_of h1).2]
    unfold nameM
    cases hf with
    | old _ _ hn => rw [name_find h hn (by omega)]; rfl
    | new =>
      have hn : n < own.length := by omega
      have e1 : own.take (n + 1) = own.take n ++ [own.getD n { data := #[] }] := by
        rw [List.take_succ_eq_append_getElem hn]
        simp [List.getD, hn]
      have e2 : (own.take n).length = n := by simp; omega
      rw [name_none h (by omega), e1]
      simp only [e2]
      rfl
theorem rd_int (own : List ByteArray) (m : Nat) : RdN own (.mk { data := #[105, 110, 116] } 0 []) m m [({ data := #[105, 110, 116] }, { data := #[105, 110, 116] })] := by
  intro L f q hM hl
  obtain ⟨h1, h2, _⟩ := hM.cons
  cases f with
  | zero => simp at hl
  | succ f =>
    rw [oneM, isM_of h1, if_pos (by decide)]
    rfl
theorem rd_bool (own : List ByteArray) (m : Nat) : RdN own (.mk { data := #[98, 111, 111, 108] } 0 []) m m [({ data := #[98, 111, 111, 108] }, { data := #[98, 111, 111, 108] })] := by
  intro L f q hM hl
  obtain ⟨h1, h2, _⟩ := hM.cons
  cases f with
  | zero => simp at hl
  | succ f =>
    rw [oneM, isM_of h1, isM_of h1, if_neg (by decide), if_pos (by decide)]
    rfl
theorem rd_list {own : List ByteArray} {a : Ty} {m k : Nat} {ps : List (ByteArray × ByteArray)} (h : RdA own a m k ps) : RdN own (.mk { data := #[108, 105, 115, 116] } 0 [a]) m k (({ data := #[91] }, { data := #[91] }) :: (ps ++ [({ data := #[93] }, { data := #[93] })])) := by
  intro L f q hM hl
  obtain ⟨h1, h2, hM2⟩ := hM.cons
  obtain ⟨hM3, hM4⟩ := hM2.app
  obtain ⟨h3, _, _⟩ := hM4.cons
  cases f with
  | zero => simp at hl
  | succ f =>
    simp at hl
    rw [oneM, isM_of h1, isM_of h1, isM_of h1, if_neg (by decide), if_neg (by decide), if_pos (by decide)]
    rw [h L f (q + 1) hM3 (by rw [h3]; decide) (by omega)]
    simp only [Option.bind_some]
    rw [(take_of h3).1, (take_of h3).2]
    simp
    omega
theorem rd_brk {own : List ByteArray} {a : Ty} {m k : Nat} {ps : List (ByteArray × ByteArray)} (h : RdA own a m k ps) : RdN own a m k (({ data := #[40] }, { data := #[40] }) :: (ps ++ [({ data := #[41] }, { data := #[41] })])) := by
  intro L f q hM hl
  obtain ⟨h1, h2, hM2⟩ := hM.cons
  obtain ⟨hM3, hM4⟩ := hM2.app
  obtain ⟨h3, _, _⟩ := hM4.cons
  cases f with
  | zero => simp at hl
  | succ f =>
    simp at hl
    rw [oneM, isM_of h1, isM_of h1, isM_of h1, isM_of h1, if_neg (by decide), if_neg (by decide), if_neg (by decide), if_pos (by decide)]
    rw [h L f (q + 1) hM3 (by rw [h3]; decide) (by omega)]
    simp only [Option.bind_some]
    rw [if_neg (by rw [isM_of h3]; decide), (take_of h3).1, (take_of h3).2]
    simp
    omega
theorem rd_pair {own : List ByteArray} {a b : Ty} {m j k : Nat} {ps qs : List (ByteArray × ByteArray)} (h : RdA own a m j ps) (g : RdA own b j k qs) : RdN own (.mk { data := #[112, 97, 105, 114] } 0 [a, b]) m k (({ data := #[40] }, { data := #[40] }) :: (ps ++ ({ data := #[44] }, { data := #[44] }) :: (qs ++ [({ data := #[41] }, { data := #[41] })]))) := by
  intro L f q hM hl
  obtain ⟨h1, h2, hM2⟩ := hM.cons
  obtain ⟨hM3, hM4⟩ := hM2.app
  obtain ⟨h3, _, hM5⟩ := hM4.cons
  obtain ⟨hM6, hM7⟩ := hM5.app
  obtain ⟨h4, _, _⟩ := hM7.cons
  cases f with
  | zero => simp at hl
  | succ f =>
    simp at hl
    rw [oneM, isM_of h1, isM_of h1, isM_of h1, isM_of h1, if_neg (by decide), if_neg (by decide), if_neg (by decide), if_pos (by decide)]
    rw [h L f (q + 1) hM3 (by rw [h3]; decide) (by omega)]
    simp only [Option.bind_some]
    rw [if_pos (by rw [isM_of h3]; decide)]
    rw [g L f _ hM6 (by rw [h4]; decide) (by omega)]
    simp only [Option.bind_some]
    rw [(take_of h4).1, (take_of h4).2]
    simp
    omega
theorem rd_fn {own : List ByteArray} {a b : Ty} {m j k : Nat} {ps qs : List (ByteArray × ByteArray)} (h : RdN own a m j ps) (g : RdA own b j k qs) : RdA own (.mk { data := #[102, 117, 110] } 0 [a, b]) m k (ps ++ ({ data := #[45, 62] }, { data := #[45, 62] }) :: qs) := by
  intro L f q hM ha hl
  obtain ⟨hM3, hM4⟩ := hM.app
  obtain ⟨h3, _, hM5⟩ := hM4.cons
  have e : q + (ps ++ ({ data := #[45, 62] }, { data := #[45, 62] }) :: qs).length = q + ps.length + 1 + qs.length := by simp; omega
  rw [e] at ha
  cases f with
  | zero => simp at hl
  | succ f =>
    simp at hl
    rw [arrowM, h L f q hM3 (by omega)]
    simp only [Option.bind_some]
    rw [if_pos (by rw [isM_of h3]; decide)]
    rw [g L f _ hM5 ha (by omega)]
    simp only [Option.bind_some, e]
end Go.Proofs.YtleenphlgbklmabGreatDoor

namespace Go.Proofs.YtleenphlgbklmabGreatDoor

def bsL (b : ByteArray) : List UInt8 := b.data.toList
theorem bsL_app (a b : ByteArray) : bsL (a ++ b) = bsL a ++ bsL b := by unfold bsL; simp
theorem bsL_len (a : ByteArray) : (bsL a).length = a.size := by unfold bsL; simp
theorem bsL_inj {a : ByteArray} : (⟨(bsL a).toArray⟩ : ByteArray) = a := by unfold bsL; rfl
/-- how a text is parted into tokens, wherever it stands. -/
def LxA (x : List UInt8) (ps : List (ByteArray × ByteArray)) : Prop := ∀ (s : ByteArray) (i : Nat) (r : List UInt8), Rs s i (x ++ r) → Stp lfI r → Lx s kkinds i ps (i + x.length)
theorem lx_sign (c : UInt8) (hc : isSign (c.toNat : Int) = true) (hb : blI (c.toNat : Int) = false) (s : ByteArray) (i : Nat) (r : List UInt8) (h : Rs s i (c :: r)) : Lx s kkinds i [(⟨#[c]⟩, ⟨#[c]⟩)] (i + 1) := by
  have h0 := run_bl0 h hb
  have h1 := tok_sign s c i r h hc kkinds
  refine .cons (j := i + 1) (by rw [h0]; exact h1) ?_ (.nil _)
  unfold lastT
  rw [h0]
  have hv : (⟨#[c]⟩ : ByteArray).data.toList.length = 1 := rfl
  cases e : ((⟨#[c]⟩ : ByteArray).data.toList == ({ data := #[110, 111, 110, 101] } : ByteArray).data.toList) with
  | true => rw [beq_iff_eq] at e; rw [e] at hv; exact absurd hv (by decide)
  | false =>
    cases e2 : ((⟨#[c]⟩ : ByteArray).data.toList == ({ data := #[101, 110, 100] } : ByteArray).data.toList) with
    | true => rw [beq_iff_eq] at e2; rw [e2] at hv; exact absurd hv (by decide)
    | false => rfl
theorem low_bl {c : Int} (h : lowI c = true) : blI c = false := by
  unfold lowI at h
  unfold blI
  simp only [Bool.and_eq_true, decide_eq_true_eq] at h
  simp only [Bool.or_eq_false_iff, beq_eq_false_iff_ne]
  omega
theorem lx_word (m is : ByteArray) (h1 : ∃ c x, m.data.toList = c :: x ∧ lowI (c.toNat : Int) = true) (h2 : ∀ d, d ∈ m.data.toList → lfI (d.toNat : Int) = true) (h3 : m.data.toList.length ≤ 8) (h4 : kkinds.foldl (kwStep m) { data := #[110, 97, 109, 101] } = is) (h5 : lastT ⟨is, m, 0⟩ = false) : LxA (bsL m) [(is, m)] := by
  intro s i r h hr
  obtain ⟨c, x, e, hc⟩ := h1
  have e' : bsL m = c :: x := e
  rw [e'] at h ⊢
  rw [e] at h2 h3
  have hm : (⟨(c :: x).toArray⟩ : ByteArray) = m := by rw [← e']; exact bsL_inj
  have ht := tok_word s c x i r h hc h2 h3 hr kkinds
  rw [hm, h4] at ht
  have h0 := run_bl0 (r := x ++ r) h (low_bl hc)
  refine .cons (j := i + (c :: x).length) (by rw [h0]; exact ht) ?_ (.nil _)
  exact h5
theorem lx_own {m : ByteArray} (h : OwN m) : LxA (bsL m) [({ data := #[110, 97, 109, 101] }, m)] := by
  refine lx_word m _ h.nz h.lf h.sz ?_ (by rfl)
  have h1 : sameS m { data := #[105, 110, 116] } = false := h.ni
  have h2 : sameS m { data := #[98, 111, 111, 108] } = false := h.nb
  unfold sameS at h1 h2
  simp only [kkinds, List.foldl_cons, List.foldl_nil, kwStep, h1, h2]
  rfl
theorem lx_int : LxA (bsL { data := #[105, 110, 116] }) [({ data := #[105, 110, 116] }, { data := #[105, 110, 116] })] := lx_word _ _ ⟨105, [110, 116], rfl, by decide⟩ (by decide) (by decide) (by rfl) (by rfl)
theorem lx_bool : LxA (bsL { data := #[98, 111, 111, 108] }) [({ data := #[98, 111, 111, 108] }, { data := #[98, 111, 111, 108] })] := lx_word _ _ ⟨98, [111, 111, 108], rfl, by decide⟩ (by decide) (by decide) (by rfl) (by rfl)
theorem stp_c {c : UInt8} (h : lfI (c.toNat : Int) = false) (r : List UInt8) : Stp lfI (c :: r) := .inr ⟨c, r, rfl, h⟩
theorem lx_brk {x : List UInt8} {ps : List (ByteArray × ByteArray)} (c d : UInt8) (hc : isSign (c.toNat : Int) = true) (hcb : blI (c.toNat : Int) = false) (hd : isSign (d.toNat : Int) = true) (hdb : blI (d.toNat : Int) = false) (hdl : lfI (d.toNat : Int) = false) (h : LxA x ps) : LxA (c :: (x ++ [d])) ((⟨#[c]⟩, ⟨#[c]⟩) :: (ps ++ [(⟨#[d]⟩, ⟨#[d]⟩)])) := by
  intro s i r hr hs
  have hr : Rs s i (c :: (x ++ d :: r)) := by simpa using hr
  have h1 := lx_sign c hc hcb s i _ hr
  have g1 := (Rs.cons hr).2.2
  have h2 := h s (i + 1) (d :: r) g1 (stp_c hdl r)
  have h3 := lx_sign d hd hdb s _ r (Rs.app x g1)
  have := h1.app (h2.app h3)
  have e : i + (c :: (x ++ [d])).length = i + 1 + x.length + 1 := by simp; omega
  rw [e]
  exact this
theorem lx_pair {x y : List UInt8} {ps qs : List (ByteArray × ByteArray)} (h : LxA x ps) (g : LxA y qs) (hq : qs ≠ []) : LxA (40 :: (x ++ 44 :: 32 :: (y ++ [41]))) (({ data := #[40] }, { data := #[40] }) :: (ps ++ ({ data := #[44] }, { data := #[44] }) :: (qs ++ [({ data := #[41] }, { data := #[41] })]))) := by
  intro s i r hr hs
  have hr : Rs s i (40 :: (x ++ 44 :: 32 :: (y ++ 41 :: r))) := by simpa using hr
  have h1 := lx_sign 40 (by decide) (by decide) s i _ hr
  have g1 := (Rs.cons hr).2.2
  have h2 := h s (i + 1) _ g1 (stp_c (by decide) _)
  have g2 := Rs.app x g1
  have h3 := lx_sign 44 (by decide) (by decide) s _ _ g2
  have g3 := (Rs.cons g2).2.2
  have g4 := (Rs.cons g3).2.2
  have h4 := Lx.bl g3 hq (g s _ _ g4 (stp_c (by decide) _))
  have h5 := lx_sign 41 (by decide) (by decide) s _ r (Rs.app y g4)
  have := h1.app (h2.app (h3.app (h4.app h5)))
  have e : i + (40 :: (x ++ 44 :: 32 :: (y ++ [41]))).length = i + 1 + x.length + 1 + 1 + y.length + 1 := by simp; omega
  rw [e]
  exact this
theorem lx_fn {x y : List UInt8} {ps qs : List (ByteArray × ByteArray)} (h : LxA x ps) (g : LxA y qs) (hq : qs ≠ []) : LxA (x ++ 32 :: 45 :: 62 :: 32 :: y) (ps ++ ({ data := #[45, 62] }, { data := #[45, 62] }) :: qs) := by
  intro s i r hr hs
  have hr : Rs s i (x ++ 32 :: 45 :: 62 :: 32 :: (y ++ r)) := by simpa using hr
  have h2 := h s i _ hr (stp_c (by decide) _)
  have g2 := Rs.app x hr
  have g3 := (Rs.cons g2).2.2
  have g4 := (Rs.cons (Rs.cons g3).2.2).2.2
  have g5 := (Rs.cons g4).2.2
  have h3 : Lx s kkinds (i + x.length + 1) [({ data := #[45, 62] }, { data := #[45, 62] })] (i + x.length + 1 + 2) := by
    have h0 := run_bl0 g3 (by decide)
    exact .cons (by rw [h0]; exact tok_arr s _ _ g3 kkinds) (by rfl) (.nil _)
  have h4 := Lx.bl g4 hq (g s _ r g5 hs)
  have := h2.app (Lx.bl g2 (by simp) (h3.app h4))
  have e : i + (x ++ 32 :: 45 :: 62 :: 32 :: y).length = i + x.length + 1 + 2 + 1 + y.length := by simp; omega
  rw [e]
  exact this
theorem sh_lx (own : List ByteArray) (ho : okN own) {t : Ty} {m k : Nat} (h : FO t m k) (hk : k ≤ own.length) : ∃ ps, ps ≠ [] ∧ RdA own t m k ps ∧ (sameS t.kind { data := #[102, 117, 110] } = false → RdN own t m k ps) ∧ LxA (bsL (shT own t)) ps := by
  induction h with
  | old n m hn =>
    have hr := rd_name ho.1 (.old n m hn) hk
    refine ⟨_, by simp, hr.arrow, fun _ => hr, ?_⟩
    rw [shT_var]
    exact lx_own (ho.2 _ (by simp [List.getD, show n < own.length from by omega]))
  | new m =>
    have hr := rd_name ho.1 (.new m) hk
    refine ⟨_, by simp, hr.arrow, fun _ => hr, ?_⟩
    rw [shT_var]
    exact lx_own (ho.2 _ (by simp [List.getD, show m < own.length from by omega]))
  | int m => exact ⟨_, by simp, (rd_int own m).arrow, fun _ => rd_int own m, by rw [shT_int]; exact lx_int⟩
  | bool m => exact ⟨_, by simp, (rd_bool own m).arrow, fun _ => rd_bool own m, by rw [shT_bool]; exact lx_bool⟩
  | list a m k _ ih =>
    obtain ⟨ps, h1, h2, h3, h4⟩ := ih hk
    refine ⟨_, by simp, (rd_list h2).arrow, fun _ => rd_list h2, ?_⟩
    rw [shT_list, bsL_app, bsL_app]
    exact lx_brk 91 93 (by decide) (by decide) (by decide) (by decide) (by decide) h4
  | pair a b m j k _ hb ih ih2 =>
    obtain ⟨ps, h1, h2, h3, h4⟩ := ih (by have := hb.le; omega)
    obtain ⟨qs, g1, g2, g3, g4⟩ := ih2 hk
    refine ⟨_, by simp, (rd_pair h2 g2).arrow, fun _ => rd_pair h2 g2, ?_⟩
    rw [shT_pair, bsL_app, bsL_app, bsL_app, bsL_app]
    have := lx_pair h4 g4 g1
    have e : bsL { data := #[40] } ++ bsL (shT own a) ++ bsL { data := #[44, 32] } ++ bsL (shT own b) ++ bsL { data := #[41] } = 40 :: (bsL (shT own a) ++ 44 :: 32 :: (bsL (shT own b) ++ [41])) := by
      simp [bsL]
    rw [e]
    exact this
  | fn a b m j k _ hb ih ih2 =>
    obtain ⟨ps, h1, h2, h3, h4⟩ := ih (by have := hb.le; omega)
    obtain ⟨qs, g1, g2, g3, g4⟩ := ih2 hk
    cases hf : sameS a.kind { data := #[102, 117, 110] } with
    | false =>
      refine ⟨_, by simp, rd_fn (h3 hf) g2, fun h => absurd (show sameS ({ data := #[102, 117, 110] } : ByteArray) { data := #[102, 117, 110] } = false from h) (by decide), ?_⟩
      rw [shT_fn, bsL_app, bsL_app]
      have hb' : (a.kind.data.toList == ({ data := #[102, 117, 110] } : ByteArray).data.toList) = false := hf
      rw [hb']
      have e : bsL (brkT false (shT own a)) ++ bsL { data := #[32, 45, 62, 32] } ++ bsL (shT own b) = bsL (shT own a) ++ 32 :: 45 :: 62 :: 32 :: bsL (shT own b) := by
        simp [bsL, brkT]
      rw [e]
      exact lx_fn h4 g4 g1
    | true =>
      refine ⟨_, by simp, rd_fn (rd_brk h2) g2, fun h => absurd (show sameS ({ data := #[102, 117, 110] } : ByteArray) { data := #[102, 117, 110] } = false from h) (by decide), ?_⟩
      rw [shT_fn, bsL_app, bsL_app]
      have hb' : (a.kind.data.toList == ({ data := #[102, 117, 110] } : ByteArray).data.toList) = true := hf
      rw [hb']
      have e : bsL (brkT true (shT own a)) ++ bsL { data := #[32, 45, 62, 32] } ++ bsL (shT own b) = (40 :: (bsL (shT own a) ++ [41])) ++ 32 :: 45 :: 62 :: 32 :: bsL (shT own b) := by
        simp [bsL, brkT]
      rw [e]
      exact lx_fn (lx_brk 40 41 (by decide) (by decide) (by decide) (by decide) (by decide) h4) g4 g1
end Go.Proofs.YtleenphlgbklmabGreatDoor

namespace Go.Proofs.YtleenphlgbklmabGreatDoor
open Go.RowKit

/-- the map of what names stand for: a list of pairs, in the order in which they came. -/
def kAt (kv : List (ByteArray × ByteArray)) (j : Nat) : ByteArray × ByteArray := kv.getD j ({ data := #[] }, { data := #[] })
def tEnt (kv : List (ByteArray × ByteArray)) (j : Nat) : MapEntry := { key := .string (kAt kv j).1, val := .agg #[.string (kAt kv j).2], born := j }
def tEs (kv : List (ByteArray × ByteArray)) : Array MapEntry := ((List.range kv.length).map (tEnt kv)).toArray
structure SM (w : World) (mb : Nat) (kv : List (ByteArray × ByteArray)) : Prop where
  mp : w.heap[mb]? = some (.map (tEs kv) kv.length)
  nd : (kv.map Prod.fst).Nodup
theorem tEs_snoc (kv : List (ByteArray × ByteArray)) (nm x : ByteArray) : (tEs kv).push { key := .string nm, val := .agg #[.string x], born := kv.length } = tEs (kv ++ [(nm, x)]) := by
  unfold tEs
  rw [List.length_append, List.length_singleton, List.range_succ, List.map_append]
  have e1 : (List.range kv.length).map (tEnt kv) = (List.range kv.length).map (tEnt (kv ++ [(nm, x)])) := by
    apply List.map_congr_left
    intro j hj
    have hj : j < kv.length := List.mem_range.1 hj
    simp [tEnt, kAt, List.getD, List.getElem?_append_left hj]
  have e2 : tEnt (kv ++ [(nm, x)]) kv.length = { key := .string nm, val := .agg #[.string x], born := kv.length } := by
    simp [tEnt, kAt, List.getD]
  rw [e1]
  simp [e2]
theorem tEs_get (kv : List (ByteArray × ByteArray)) (j : Nat) : (tEs kv).toList[j]? = if j < kv.length then some (tEnt kv j) else none := by
  simp only [tEs]
  by_cases h : j < kv.length
  · simp [h]
  · simp [h]
theorem find_ts (kv : List (ByteArray × ByteArray)) (nm : ByteArray) (hn : (kv.map Prod.fst).Nodup) : Instr.findNow .string (.string nm) (tEs kv).toList 0 = some ((kv.findIdx? (fun x => sameS x.1 nm)).map fun j => (j, .agg #[.string (kAt kv j).2])) := by
  have hk : MapKept.IsKey .string (.string nm) := by simp [MapKept.IsKey]
  have hall : ∀ x, x ∈ (tEs kv).toList → MapKept.IsKey .string x.key := fun x hx => by
    simp only [tEs, List.mem_map] at hx
    obtain ⟨j, _, rfl⟩ := hx
    simp [tEnt, MapKept.IsKey]
  have gd : ∀ j (h : j < kv.length), kAt kv j = kv[j] := fun j h => by simp [kAt, List.getD, h]
  rcases MapKept.findNow_spec hk (tEs kv).toList 0 hall with ⟨h1, h2⟩ | ⟨j, e, h1, h2, h3⟩
  · have : kv.findIdx? (fun x => sameS x.1 nm) = none := by
      rw [List.findIdx?_eq_none_iff]
      intro x hx
      obtain ⟨j, hj, rfl⟩ := List.getElem_of_mem hx
      rw [Bool.eq_false_iff]
      intro q
      have q := (sameS_iff _ _).1 q
      have hm : tEnt kv j ∈ (tEs kv).toList := by
        simp only [tEs, List.mem_map]
        exact ⟨j, by simpa using hj, rfl⟩
      refine h2 _ hm ?_
      simp only [tEnt]
      rw [gd j hj, q]
    rw [h1, this]
    rfl
  · rw [tEs_get] at h2
    by_cases hj : j < kv.length
    · rw [if_pos hj] at h2
      obtain rfl := Option.some.inj h2
      have q : kv[j].1 = nm := by
        simp only [tEnt] at h3
        rw [gd j hj] at h3
        injection h3
      have : kv.findIdx? (fun x => sameS x.1 nm) = some j := by
        rw [List.findIdx?_eq_some_iff_getElem]
        refine ⟨hj, (sameS_iff _ _).2 q, ?_⟩
        intro i hi z
        have z := (sameS_iff _ _).1 z
        have := (List.pairwise_iff_getElem.1 hn) i j (by simp; omega) (by simpa using hj) hi
        simp at this
        exact this (z.trans q.symm)
      rw [h1, this]
      simp [tEnt]
    · rw [if_neg hj] at h2
      cases h2
theorem Tryz.zeroTyped (w : World) : (zeroValue 68).run Tryz.prog w = .ok (.agg #[.string { data := #[] }]) w := by kernel_rfl
theorem run_tlook (M : TypeId) (hM : Tryz.prog.underlying M = some (.map 9 68)) (w : World) (mb : Nat) (kv : List (ByteArray × ByteArray)) (nm : ByteArray) (h : SM w mb kv) :
    (Instr.lookup M (.map (some mb)) (.string nm) true).run Tryz.prog w = .ok (match kv.findIdx? (fun x => sameS x.1 nm) with | some j => .tuple #[.agg #[.string (kAt kv j).2], .bool true] | none => .tuple #[.agg #[.string { data := #[] }], .bool false]) w := by
  have hf := find_ts kv nm h.nd
  have hc : ∀ e, (Instr.checkKey e 10000 9 (.string nm)).run Tryz.prog w = .ok () w := fun e => MapKept.run_checkKey Tryz.underlying9 (by simp [MapKept.IsKey]) e 9999
  have hz := Tryz.zeroTyped w
  simp only [Instr.lookup, Sem.run_bind, run_underlying hM, MapKept.run_getObj_map h.mp, Result.andThen, Sem.run_pure, hc, MapKept.run_findKey Tryz.underlying9 hf]
  cases kv.findIdx? (fun x => sameS x.1 nm) with
  | none => simp [hz, Result.andThen]
  | some j => simp
theorem run_tlook1 (M : TypeId) (hM : Tryz.prog.underlying M = some (.map 9 68)) (w : World) (mb : Nat) (kv : List (ByteArray × ByteArray)) (nm : ByteArray) (h : SM w mb kv) :
    (Instr.lookup M (.map (some mb)) (.string nm) false).run Tryz.prog w = .ok (match kv.findIdx? (fun x => sameS x.1 nm) with | some j => .agg #[.string (kAt kv j).2] | none => .agg #[.string { data := #[] }]) w := by
  have hf := find_ts kv nm h.nd
  have hc : ∀ e, (Instr.checkKey e 10000 9 (.string nm)).run Tryz.prog w = .ok () w := fun e => MapKept.run_checkKey Tryz.underlying9 (by simp [MapKept.IsKey]) e 9999
  have hz := Tryz.zeroTyped w
  simp only [Instr.lookup, Sem.run_bind, run_underlying hM, MapKept.run_getObj_map h.mp, Result.andThen, Sem.run_pure, hc, MapKept.run_findKey Tryz.underlying9 hf]
  cases kv.findIdx? (fun x => sameS x.1 nm) with
  | none => simp [hz, Result.andThen]
  | some j => simp
theorem run_tput (M : TypeId) (hM : Tryz.prog.underlying M = some (.map 9 68)) (w : World) (mb : Nat) (kv : List (ByteArray × ByteArray)) (nm x : ByteArray) (h : SM w mb kv) (hj : kv.findIdx? (fun x => sameS x.1 nm) = none) :
    (Instr.mapUpdate M (.map (some mb)) (.string nm) (.agg #[.string x])).run Tryz.prog w = .ok () (mapSet w mb (.map (tEs (kv ++ [(nm, x)])) (kv.length + 1))) := by
  have hf := find_ts kv nm h.nd
  rw [hj] at hf
  have hf : Instr.findNow .string (.string nm) (tEs kv).toList 0 = some none := hf
  have hc : (Instr.checkKey false 10000 9 (.string nm)).run Tryz.prog w = .ok () w := MapKept.run_checkKey Tryz.underlying9 (by simp [MapKept.IsKey]) false 9999
  rw [← tEs_snoc kv]
  simp [mapSet, Instr.mapUpdate, run_underlying hM, MapKept.run_getObj_map h.mp, hc, MapKept.run_findKey Tryz.underlying9 hf, MapKept.run_setObj_map _ h.mp, Result.andThen]
theorem SM.put {w : World} {mb : Nat} {kv : List (ByteArray × ByteArray)} (h : SM w mb kv) (nm x : ByteArray) (hj : kv.findIdx? (fun x => sameS x.1 nm) = none) : SM (mapSet w mb (.map (tEs (kv ++ [(nm, x)])) (kv.length + 1))) mb (kv ++ [(nm, x)]) := by
  refine ⟨?_, ?_⟩
  · rw [mapSet_same _ _ _ (lt_of_block h.mp)]
    simp
  · rw [List.map_append, List.nodup_append]
    refine ⟨h.nd, by simp, ?_⟩
    intro a ha b hb
    simp at hb
    subst hb
    rw [List.findIdx?_eq_none_iff] at hj
    obtain ⟨y, hy, rfl⟩ := List.mem_map.1 ha
    intro z
    have := hj y hy
    rw [Bool.eq_false_iff] at this
    exact this ((sameS_iff _ _).2 z)
theorem SM.kp {w w' : World} {mb : Nat} {kv : List (ByteArray × ByteArray)} {P : Nat → Prop} (h : SM w mb kv) (hk : Kp P w w') (hn : ¬ P mb) : SM w' mb kv := ⟨hk.blk h.mp hn, h.nd⟩
end Go.Proofs.YtleenphlgbklmabGreatDoor
