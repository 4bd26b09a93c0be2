import Derived.Test.YtleenphlgbklmaaGreatDoorVWCanon
import Derived.Test.YtleenphlgbklmaaGreatDoorVTxB
set_option linter.unusedVariables false
set_option linter.unusedSimpArgs false
namespace Go.Proofs.YtleenphlgbklmaaGreatDoor
open Go.RowKit

theorem varsM_pre {m : Nat} {t : Ty} (h : WT m t) : ∀ l, l <+: varsM t l := by
  induction h with
  | var n hn => intro l; rw [varsM_leaf]; split; exact List.prefix_refl _; exact List.prefix_append _ _
  | int => intro l; rw [varsM_int]; exact List.prefix_refl _
  | bool => intro l; rw [varsM_bool]; exact List.prefix_refl _
  | list a _ ih => intro l; rw [varsM_list]; exact ih l
  | pair a b _ _ ih ih2 => intro l; rw [varsM_pair]; exact (ih l).trans (ih2 _)
  | fn a b _ _ ih ih2 => intro l; rw [varsM_fn]; exact (ih l).trans (ih2 _)
theorem varsM_nodup {m : Nat} {t : Ty} (h : WT m t) : ∀ l, l.Nodup → (varsM t l).Nodup := by
  induction h with
  | var n hn =>
    intro l hl
    rw [varsM_leaf]
    split
    · exact hl
    · rename_i e
      refine List.nodup_append.2 ⟨hl, by simp, ?_⟩
      intro a ha b hb
      simp at hb
      subst hb
      intro q
      subst q
      exact e (List.contains_iff_mem.2 ha)
  | int => intro l hl; rw [varsM_int]; exact hl
  | bool => intro l hl; rw [varsM_bool]; exact hl
  | list a _ ih => intro l hl; rw [varsM_list]; exact ih l hl
  | pair a b _ _ ih ih2 => intro l hl; rw [varsM_pair]; exact ih2 _ (ih l hl)
  | fn a b _ _ ih ih2 => intro l hl; rw [varsM_fn]; exact ih2 _ (ih l hl)
theorem cnA_get (ns : List Nat) (m : Nat) (hd : ns.Nodup) (hlt : ∀ x, x ∈ ns → x < m) : ∀ q, q ≤ ns.length → ∀ j, j < q → (cnA ns m q).getD (ns.getD j 0) { data := #[] } = letM j := by
  intro q
  induction q with
  | zero => intro _ j hj; omega
  | succ q ih =>
    intro hq j hj
    have gq : ns.getD q 0 = ns[q] := by simp [List.getD, show q < ns.length by omega]
    have gj : ns.getD j 0 = ns[j] := by simp [List.getD, show j < ns.length by omega]
    by_cases e : j = q
    · subst e
      have : ns.getD j 0 < (cnA ns m j).length := by rw [cnA_len, gj]; exact hlt _ (List.getElem_mem _)
      simp [cnA, List.getD, List.getElem?_set] at this ⊢
      simp [this]
    · have hne : ns.getD q 0 ≠ ns.getD j 0 := by
        rw [gq, gj]
        intro z
        exact (List.pairwise_iff_getElem.1 hd) j q (by omega) (by omega) (by omega) z.symm
      have hi := ih (by omega) j (by omega)
      rw [← hi]
      simp only [cnA]
      generalize ns.getD q 0 = x at *
      generalize ns.getD j 0 = y at *
      simp only [List.getD]
      rw [List.getElem?_set_ne hne]
end Go.Proofs.YtleenphlgbklmaaGreatDoor

namespace Go.Proofs.YtleenphlgbklmaaGreatDoor
open Go.RowKit

/-- the type that a node is, as a tree; variables by their place in the store. -/
inductive Dn (σ : St) : TR → Ty → Prop
  | int (r : TR) : Rp σ r .int → Dn σ r (.mk { data := #[105, 110, 116] } 0 [])
  | bool (r : TR) : Rp σ r .bool → Dn σ r (.mk { data := #[98, 111, 111, 108] } 0 [])
  | var (r : TR) (i : Nat) : Rp σ r (.nd .vr i) → Dn σ r (.mk { data := #[] } i [])
  | list (r : TR) (i : Nat) (x : TR) (a : Ty) : Rp σ r (.nd .ls i) → σ[i]? = some ⟨.ls x, none⟩ → Dn σ x a → Dn σ r (.mk { data := #[108, 105, 115, 116] } 0 [a])
  | pair (r : TR) (i : Nat) (x y : TR) (a c : Ty) : Rp σ r (.nd .pr i) → σ[i]? = some ⟨.pr x y, none⟩ → Dn σ x a → Dn σ y c → Dn σ r (.mk { data := #[112, 97, 105, 114] } 0 [a, c])
  | fn (r : TR) (i : Nat) (x y : TR) (a c : Ty) : Rp σ r (.nd .ar i) → σ[i]? = some ⟨.ar x y, none⟩ → Dn σ x a → Dn σ y c → Dn σ r (.mk { data := #[102, 117, 110] } 0 [a, c])
theorem Dn.root {σ : St} {r : TR} {t : Ty} (h : Dn σ r t) : ∃ r0, Rp σ r r0 ∧ Dn σ r0 t := by
  cases h with
  | int _ h => exact ⟨_, h, .int _ h.root_of⟩
  | bool _ h => exact ⟨_, h, .bool _ h.root_of⟩
  | var _ i h => exact ⟨_, h, .var _ i h.root_of⟩
  | list _ i x a h h1 h2 => exact ⟨_, h, .list _ i x a h.root_of h1 h2⟩
  | pair _ i x y a c h h1 h2 h3 => exact ⟨_, h, .pair _ i x y a c h.root_of h1 h2 h3⟩
  | fn _ i x y a c h h1 h2 h3 => exact ⟨_, h, .fn _ i x y a c h.root_of h1 h2 h3⟩
theorem Dn.det {σ : St} {r : TR} {t : Ty} (h : Dn σ r t) : ∀ {u : Ty}, Dn σ r u → t = u := by
  induction h with
  | int r h => intro u g; cases g with
    | int _ g => rfl
    | bool _ g => cases h.det g
    | var _ i g => cases h.det g
    | list _ i x a g _ _ => cases h.det g
    | pair _ i x y a c g _ _ _ => cases h.det g
    | fn _ i x y a c g _ _ _ => cases h.det g
  | bool r h => intro u g; cases g with
    | int _ g => cases h.det g
    | bool _ g => rfl
    | var _ i g => cases h.det g
    | list _ i x a g _ _ => cases h.det g
    | pair _ i x y a c g _ _ _ => cases h.det g
    | fn _ i x y a c g _ _ _ => cases h.det g
  | var r j h => intro u g; cases g with
    | int _ g => cases h.det g
    | bool _ g => cases h.det g
    | var _ i g =>
      have := h.det g
      simp only [TR.nd.injEq, true_and] at this
      rw [this]
    | list _ i x a g _ _ => cases h.det g
    | pair _ i x y a c g _ _ _ => cases h.det g
    | fn _ i x y a c g _ _ _ => cases h.det g
  | list r j x a h h1 h2 ih => intro u g; cases g with
    | int _ g => cases h.det g
    | bool _ g => cases h.det g
    | var _ i g => cases h.det g
    | list _ i x' a' g g1 g2 =>
      have := h.det g
      simp only [TR.nd.injEq, true_and] at this
      rw [← this, h1] at g1
      simp at g1
      rw [← g1] at g2
      rw [ih g2]
    | pair _ i x y a c g _ _ _ => cases h.det g
    | fn _ i x y a c g _ _ _ => cases h.det g
  | pair r j x y a c h h1 h2 h3 ih ih2 => intro u g; cases g with
    | int _ g => cases h.det g
    | bool _ g => cases h.det g
    | var _ i g => cases h.det g
    | list _ i x a g _ _ => cases h.det g
    | pair _ i x' y' a' c' g g1 g2 g3 =>
      have := h.det g
      simp only [TR.nd.injEq, true_and] at this
      rw [← this, h1] at g1
      simp at g1
      rw [← g1.1] at g2
      rw [← g1.2] at g3
      rw [ih g2, ih2 g3]
    | fn _ i x y a c g _ _ _ => cases h.det g
  | fn r j x y a c h h1 h2 h3 ih ih2 => intro u g; cases g with
    | int _ g => cases h.det g
    | bool _ g => cases h.det g
    | var _ i g => cases h.det g
    | list _ i x a g _ _ => cases h.det g
    | pair _ i x y a c g _ _ _ => cases h.det g
    | fn _ i x' y' a' c' g g1 g2 g3 =>
      have := h.det g
      simp only [TR.nd.injEq, true_and] at this
      rw [← this, h1] at g1
      simp at g1
      rw [← g1.1] at g2
      rw [← g1.2] at g3
      rw [ih g2, ih2 g3]
theorem Dn.wt {σ : St} {r : TR} {t : Ty} (h : Dn σ r t) : WT σ.length t := by
  induction h with
  | int r h => exact .int
  | bool r h => exact .bool
  | var r i h =>
    obtain ⟨nk, _, h⟩ := h.rt
    exact .var i (List.getElem?_eq_some_iff.1 h).1
  | list r i x a _ _ _ ih => exact .list a ih
  | pair r i x y a c _ _ _ _ ih ih2 => exact .pair a c ih ih2
  | fn r i x y a c _ _ _ _ ih ih2 => exact .fn a c ih ih2
/-- the program's store is that one, but for how long the ways are. -/
def SX (w : World) (ad : List Nat) (σ : St) : Prop := ∃ τ, SW w ad τ ∧ Ev σ τ
theorem SX.keep {w w' : World} {ad : List Nat} {σ : St} (h : SX w ad σ) (hk : ∀ b o, b ∈ ad → w.heap[b]? = some o → w'.heap[b]? = some o) : SX w' ad σ := by
  obtain ⟨τ, h1, h2⟩ := h
  exact ⟨τ, h1.keep hk, h2⟩
theorem known_se {ad : List Nat} {σ : St} {r r0 : TR} (h : Rp σ r r0) (w : World) (v : Value) (hs : SX w ad σ) (hv : RV ad r v) :
    Calls Tryz.prog 182 #[v] w fun e w' => ∃ v0, e = .returned v0 ∧ RV ad r0 v0 ∧ SX w' ad σ ∧ Kt ad (fun _ => False) w w' := by
  obtain ⟨τ, h1, h2⟩ := hs
  refine (known_sw ad (h2.rp _ _ h) w v h1 hv).mono ?_
  rintro e w' ⟨v0, τ', rfl, h3, h4, h5, h6⟩
  exact ⟨v0, rfl, h3, ⟨τ', h4, h2.trans h5⟩, h6⟩
def pvE (es : List (TR × Nat × Nat)) : List (TR × Value) := es.map fun e => (e.1, .agg #[.int .i64 e.2.1, .int .i64 e.2.2])
/-- the writer: the text so far, the pieces of it, the variables come to. -/
structure TX (w : World) (ad : List Nat) (σ : St) (B b pm : Nat) (fv : Value) (F : List ByteArray) (ok : World → List Nat → Prop) (l : List Nat) (sp : List Sp) (es : List (TR × Nat × Nat)) : Prop where
  tl : TL w B b pm fv sp
  mp : TMp w pm ad (pvE es)
  st : SX w ad σ
  ns : ok w l
  bs : B ≤ w.heap.size
  pB : B ≤ pm
  adB : ∀ a, a ∈ ad → a < B
  pcs : ∀ e, e ∈ es → ∃ T, Dn σ e.1 T ∧ e.2.1 ≤ e.2.2 ∧ e.2.2 ≤ (decS sp).size ∧ (decS sp).extract e.2.1 e.2.2 = shT F T ∧ varsM T l = l
/-- where the writer's memory may change. -/
def SN (B : Nat) (nm : Nat → Prop) (q : Nat) : Prop := B ≤ q ∨ nm q
/-- what a way to write variables is good for: what it keeps lies ahead of the writer. -/
def OkK (ad : List Nat) (B : Nat) (ok : World → List Nat → Prop) : Prop := ∀ w w' l, ok w l → Kt ad (ST B) w w' → ok w' l
theorem extract_app (a b : ByteArray) (f t : Nat) (h : t ≤ a.size) : (a ++ b).extract f t = a.extract f t := by
  apply ByteArray.ext
  simp only [ByteArray.data_extract, ByteArray.data_append, Array.extract_append]
  have : a.data.size = a.size := rfl
  rw [show t - a.data.size = 0 by omega]
  simp
theorem TL.kt {w w' : World} {ad : List Nat} {B b pm : Nat} {fv : Value} {sp : List Sp} {S : Nat → Prop} (h : TL w B b pm fv sp) (k : Kt ad S w w') (hS : ∀ q, S q → q < B) : TL w' B b pm fv sp := by
  obtain ⟨hB, ⟨sv, h1, h2, h3, h4⟩, h5, h6⟩ := h
  refine ⟨hB, ⟨sv, k.blk _ _ h1 (fun z => by have := hS _ z; omega) ?_, ?_, h3, h4⟩, h5, h6⟩
  · rintro ⟨cs, e, f, he, ht⟩
    simp only [Obj.cells.injEq] at he
    obtain ⟨_, rfl, _⟩ := he
    rcases ht with e | e | e | e <;> cases e
  · refine ⟨h2.1, ?_⟩
    rcases h2.2 with q | ⟨g, cap, cur, rfl, hgB, hg, hr⟩
    · exact .inl q
    · refine .inr ⟨g, cap, cur, rfl, hgB, k.blk _ _ hg (fun z => by have := hS _ z; omega) ?_, hr⟩
      rintro ⟨cs, e, f, he, ht⟩
      simp only [Obj.cells.injEq] at he
      obtain ⟨_, rfl, _⟩ := he
      rcases ht with e | e | e | e <;> cases e
theorem TMp.kt {w w' : World} {mb : Nat} {ad : List Nat} {l : List (TR × Value)} {S : Nat → Prop} (h : TMp w mb ad l) (k : Kt ad S w w') (hS : ¬ S mb) : TMp w' mb ad l :=
  ⟨k.blk _ _ h.mp hS (by rintro ⟨cs, e, f, he, _⟩; cases he), h.ok⟩
section
variable {w w' : World} {ad : List Nat} {σ : St} {B b pm : Nat} {fv : Value} {F : List ByteArray} {ok : World → List Nat → Prop} {l : List Nat} {sp : List Sp} {es : List (TR × Nat × Nat)}
/-- known was asked. -/
theorem TX.kn (h : TX w ad σ B b pm fv F ok l sp es) (hok : OkK ad B ok) (k : Kt ad (fun _ => False) w w') (hs : SX w' ad σ) : TX w' ad σ B b pm fv F ok l sp es :=
  ⟨h.tl.kt k (fun _ z => z.elim), h.mp.kt k id, hs, hok _ _ _ h.ns (k.mono (fun _ _ z => z.elim)), Nat.le_trans h.bs k.size, h.pB, h.adB, h.pcs⟩
theorem TX.kept (h : TX w ad σ B b pm fv F ok l sp es) (hok : OkK ad B ok) (k : Kept w w') : TX w' ad σ B b pm fv F ok l sp es :=
  h.kn hok (Kt.of_kept k) (h.st.keep (fun _ _ _ hb => k.blk hb))
/-- more of the text stands. -/
theorem TX.more (h : TX w ad σ B b pm fv F ok l sp es) (hok : OkK ad B ok) (k : Kq (ST B) w w') {s : Sp} (ht : TL w' B b pm fv (sp ++ [s])) (hm : w'.heap[pm]? = w.heap[pm]?) : TX w' ad σ B b pm fv F ok l (sp ++ [s]) es := by
  refine ⟨ht, ⟨hm.trans h.mp.mp, h.mp.ok⟩, h.st.keep (fun a o ha hb => (k.block a (lt_of_block hb) (fun z => ?_)).trans hb), hok _ _ _ h.ns (Kt.of_kq k), Nat.le_trans h.bs k.size, h.pB, h.adB, ?_⟩
  · have := h.adB a ha
    have z : B ≤ a := z
    omega
  · intro e he
    obtain ⟨T, h1, h2, h3, h4, h5⟩ := h.pcs e he
    have hp : ∃ x, decS (sp ++ [s]) = decS sp ++ x := by
      rw [decS_snoc]
      cases s with
      | tk t => exact ⟨_, rfl⟩
      | cp f t => exact ⟨_, rfl⟩
    obtain ⟨x, hx⟩ := hp
    refine ⟨T, h1, h2, by rw [hx, ByteArray.size_append]; omega, ?_, h5⟩
    rw [hx, extract_app _ _ _ _ h3]
    exact h4
end
end Go.Proofs.YtleenphlgbklmaaGreatDoor
