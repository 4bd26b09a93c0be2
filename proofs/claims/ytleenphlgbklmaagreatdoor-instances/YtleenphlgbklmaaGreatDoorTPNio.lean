import Derived.Test.YtleenphlgbklmaaGreatDoorTTxV
import Derived.Test.YtleenphlgbklmaaGreatDoorTWCanon
import Derived.Test.YtleenphlgbklmaaGreatDoorTTxW
import Derived.Test.YtleenphlgbklmaaGreatDoorTPKnown
import Derived.Test.YtleenphlgbklmaaGreatDoorTPNum
set_option linter.unusedVariables false
set_option linter.unusedSimpArgs false
namespace Go.Proofs.YtleenphlgbklmaaGreatDoor
open Go.RowKit
set_option maxRecDepth 20000 in
set_option maxHeartbeats 1000000 in
theorem again_any {w : World} {B b pm : Nat} {fv : Value} {sp : List Sp} (h : TL w B b pm fv sp) (hBw : B ≤ w.heap.size) (hpm : pm < w.heap.size) (hbp : pm ≠ b) (f t : Nat) (hft : f ≤ t) (htl : t ≤ (decS sp).size) (hn : (decS sp).size + (t - f) ≤ 2147483647) (hl : sp.length + 1 ≤ 1000000000) :
    Calls Tryz.prog 183 #[.pointer (some ⟨b, 0, none⟩), .agg #[.int .i64 f, .int .i64 t]] w fun e w' => e = .returned (.tuple #[]) ∧ TL w' B b pm fv (sp ++ [.cp f t]) ∧ Kq (ST B) w w' ∧ w'.heap[pm]? = w.heap[pm]? := by
  obtain ⟨sv, hb, ho, hn1, hn2⟩ := h.cs
  obtain ⟨i0, hi, hij⟩ := Option.map_eq_some_iff.1 Tryz.infoStep
  obtain ⟨hz0, hz1, hz2⟩ : i0.zero = some (.agg #[.string { data := #[] }, .int .i64 0, .int .i64 0]) ∧ i0.size = 3 ∧ i0.bytes = 32 := by
    have := hij
    simp only [Prod.mk.injEq] at this
    exact this
  have c1 : w.cell? ⟨b, 1, none⟩ = some sv := by simp [World.cell?, hb]
  have hbl := lt_of_block hb
  have hg : ∀ k, sv.ownBlock = some k → B ≤ k ∧ k < w.heap.size := fun k hk => ho.lt k hk
  have HL : Hid (∀ (w4 : World) (u : Value), w4.heap[b]? = some (.cells #[fv, u, .int .i64 (decS sp).size, .map (some pm)] 303 (0, 0)) → Calls Tryz.prog 213 #[.pointer (some ⟨b, 0, none⟩), .int .i64 ((t : Int) - (f : Int))] w4 fun e w' => e = .returned (.tuple #[]) ∧ w'.heap[b]? = some (.cells #[fv, u, .int .i64 (((decS sp).size + (t - f) : Nat) : Int), .map (some pm)] 303 (0, 0)) ∧ Kq (· = b) w4 w') := fun w4 u h4 => by
    have e : ((t : Int) - (f : Int)) = ((t - f : Nat) : Int) := by omega
    rw [e]
    exact lengthen_any w4 b _ _ fv u _ h4 hn
  have H : Hid (TL w B b pm fv sp) := h
  have HN : Hid (sv.ownBlock ≠ some b ∧ sv.ownBlock ≠ some pm) := ⟨hn1, hn2⟩
  have HG : Hid _ := hg
  have HB : Hid _ := h.hB
  clear h hn1 hn2 hg hij
  have hpl : (w.alloc (.cells #[.int .i64 f, .int .i64 t] 306)).heap.size = w.heap.size + 1 := by simp
  have hbd : (w.alloc (.cells #[.int .i64 f, .int .i64 t] 306)).heap[b]? = some (.cells #[fv, sv, .int .i64 (decS sp).size, .map (some pm)] 303 (0, 0)) := (Below.heap_alloc _ _ _ hbl).trans hb
  have hod : (w.alloc (.cells #[.int .i64 f, .int .i64 t] 306)).ownsRow B 308 3 sv sp.length (spCells sp) := ho.alloc _
  have hpb : (w.alloc (.cells #[.int .i64 f, .int .i64 t] 306)).heap[w.heap.size]? = some (.cells #[.int .i64 f, .int .i64 t] 306 (0, 0)) := heap_alloc_new _ _
  have HGD : Hid (∀ k, sv.ownBlock = some k → B ≤ k ∧ k < w.heap.size) := HG
  have HKP : Hid ((w.alloc (.cells #[.int .i64 f, .int .i64 t] 306)).heap[pm]? = w.heap[pm]?) := Below.heap_alloc _ _ _ hpm
  have HKD : Hid (Kq (ST B) w (w.alloc (.cells #[.int .i64 f, .int .i64 t] 306))) := Kq.of_kept (Kept.alloc _ _)
  clear c1 ho HG hb
  go_enter Tryz.func183, Tryz.ntmps183
  go_wp2_with fail
  generalize hwd : w.alloc (.cells #[.int .i64 f, .int .i64 t] 306) = wd at *
  have c1 : wd.cell? ⟨b, 1, none⟩ = some sv := by simp [World.cell?, hbd]
  have hp0 : wd.cell? ⟨w.heap.size, 0, none⟩ = some (.int .i64 f) := by simp [World.cell?, hpb]
  have hp1 : wd.cell? ⟨w.heap.size, 1, none⟩ = some (.int .i64 t) := by simp [World.cell?, hpb]
  have HNW : Hid ((wd.drew.alloc (.cells #[.string { data := #[] }, .int .i64 f, .int .i64 t] 308)).heap[w.heap.size + 1]? = some (.cells #[.string { data := #[] }, .int .i64 f, .int .i64 t] 308 (0, 0))) := by
    show _ = _
    rw [← hpl]
    exact heap_alloc_new _ _
  have hown : wd.drew.ownsRow B 308 3 sv sp.length (spCells sp) := hod
  have HNC : Hid (∀ (q : Nat) (u : Value), [Value.string { data := #[] }, .int .i64 f, .int .i64 t][q]? = some u → (wd.drew.alloc (.cells #[.string { data := #[] }, .int .i64 f, .int .i64 t] 308)).cell? ((⟨w.heap.size + 1, 0, none⟩ : Addr).add q) = some u) := fun q u hq => by
    have hnw := HNW.out
    generalize wd.drew.alloc (.cells #[.string { data := #[] }, .int .i64 f, .int .i64 t] 308) = wx at *
    match q, hq with
    | 0, hq => simp at hq; subst hq; simp [Addr.add, World.cell?, hnw]
    | 1, hq => simp at hq; subst hq; simp [Addr.add, World.cell?, hnw]
    | 2, hq => simp at hq; subst hq; simp [Addr.add, World.cell?, hnw]
  have HX : Hid (∀ w3 : World, (wd.drew.alloc (.cells #[.string { data := #[] }, .int .i64 f, .int .i64 t] 308)).grownBy w3 sv.ownBlock → w3.heap[b]? = some (.cells #[fv, sv, .int .i64 (decS sp).size, .map (some pm)] 303 (0, 0)) ∧ w3.heap[w.heap.size]? = some (.cells #[.int .i64 f, .int .i64 t] 306 (0, 0)) ∧ w3.cell? ⟨b, 1, none⟩ = some sv ∧ w3.frozen? ⟨b, 1, none⟩ = false) := fun w3 hgrow3 => by
    have hb3 : w3.heap[b]? = some (.cells #[fv, sv, .int .i64 (decS sp).size, .map (some pm)] 303 (0, 0)) := by
      rw [hgrow3.block b (by simp; omega) (fun e => HN.out.1 e.symm), Below.heap_alloc _ _ _ (by show b < wd.heap.size; omega)]
      exact hbd
    refine ⟨hb3, ?_, by simp [World.cell?, hb3], by simp [World.frozen?, hb3]⟩
    rw [hgrow3.block w.heap.size (by simp; omega) (fun e => by have := HGD.out _ e.symm; omega), Below.heap_alloc _ _ _ (by show w.heap.size < wd.heap.size; omega)]
    exact hpb
  go_region_law (first
    | (refine step_append_own2 (by rfl) (.tmp 8) (.tmp 11) 301 (by rfl) B 308 i0 (.agg #[.string { data := #[] }, .int .i64 0, .int .i64 0]) 3 32 Tryz.underlying301 hi hz0 hz1 hz2 rfl (by decide) _ _ _ (by rfl) (hown.alloc _) ⟨w.heap.size + 1, 0, none⟩ 1 1 [.string { data := #[] }, .int .i64 f, .int .i64 t] (by rfl) rfl (fun q u hq => HNC.out q u hq) (fun u hu => by simp at hu; rcases hu with rfl | rfl | rfl <;> rfl) (by unfold maxLen; omega) (by omega) (by simp; omega) (by decide) ?_; intro g cap w3 hown3 hgrow3 hfr3; obtain ⟨hb3, hp3, x1, x2⟩ := HX.out w3 hgrow3))
  all_goals
    have hgb : g ≠ b ∧ g ≠ pm ∧ B ≤ g := by
      rcases hfr3 with e | e
      · exact ⟨fun z => HN.out.1 (by rw [← e, z]), fun z => HN.out.2 (by rw [← e, z]), (HGD.out g e.symm).1⟩
      · (try simp at e)
        exact ⟨by omega, by omega, by omega⟩
    have hb4 : (w3.setCell ⟨b, 1, none⟩ (.slice (some ⟨g, 0, none⟩) (sp.length + 1) cap)).heap[b]? = some (.cells #[fv, .slice (some ⟨g, 0, none⟩) (sp.length + 1) cap, .int .i64 (decS sp).size, .map (some pm)] 303 (0, 0)) := by
      simp [World.setCell, hb3, Array.getElem?_modify]
    have HL4 : Hid _ := HL.out _ _ hb4
    have hsz3 := hgrow3.size
    have hpm4 : (w3.setCell ⟨b, 1, none⟩ (.slice (some ⟨g, 0, none⟩) (sp.length + 1) cap)).heap[pm]? = w.heap[pm]? := by
      rw [Below.heap_setCell _ _ _ _ hbp, hgrow3.block pm (by simp; omega) (fun e => HN.out.2 e.symm)]
      exact (Below.heap_alloc wd.drew _ _ (by show pm < wd.heap.size; omega)).trans (HKP.out)
    have HPM : Hid (pm < w3.heap.size ∧ (w3.setCell ⟨b, 1, none⟩ (.slice (some ⟨g, 0, none⟩) (sp.length + 1) cap)).heap[pm]? = w.heap[pm]?) := ⟨by simp at hsz3; omega, hpm4⟩
    have hk3 : Kq (ST B) w w3 := HKD.out.trans ⟨hgrow3.os, hgrow3.output, by simp at hsz3; omega, fun k hk hn => by
      rw [hgrow3.block k (by simp; omega) (fun e => hn (HGD.out k e.symm).1)]
      exact Below.heap_alloc wd.drew _ _ hk⟩
    have hk4 : Kq (ST B) w3 (w3.setCell ⟨b, 1, none⟩ (.slice (some ⟨g, 0, none⟩) (sp.length + 1) cap)) := ⟨rfl, rfl, by simp, fun k hk hn => Below.heap_setCell _ _ _ _ (fun e => hn (by show B ≤ k; rw [show k = b from e]; exact HB.out))⟩
    have ho4 : (w3.setCell ⟨b, 1, none⟩ (.slice (some ⟨g, 0, none⟩) (sp.length + 1) cap)).ownsRow B 308 3 (.slice (some ⟨g, 0, none⟩) (sp.length + 1) cap) (sp.length + 1) (spCells sp ++ [.string { data := #[] }, .int .i64 f, .int .i64 t]) := ownsRow_same hown3 (fun k hk => by
      have : k = g := by simpa [Value.ownBlock] using hk.symm
      subst this
      exact Below.heap_setCell _ _ _ _ hgb.1)
    have HO4 : Hid _ := ho4
    have q0 : (w3.setCell ⟨b, 1, none⟩ (.slice (some ⟨g, 0, none⟩) (sp.length + 1) cap)).cell? ⟨w.heap.size, 0, none⟩ = some (.int .i64 f) := by
      rw [World.cell?_setCell_other _ _ _ _ (fun e => by injection e with e1; omega)]
      simp [World.cell?, hp3]
    have q1 : (w3.setCell ⟨b, 1, none⟩ (.slice (some ⟨g, 0, none⟩) (sp.length + 1) cap)).cell? ⟨w.heap.size, 1, none⟩ = some (.int .i64 t) := by
      rw [World.cell?_setCell_other _ _ _ _ (fun e => by injection e with e1; omega)]
      simp [World.cell?, hp3]
    have hs34 : (w3.setCell ⟨b, 1, none⟩ (.slice (some ⟨g, 0, none⟩) (sp.length + 1) cap)).heap.size = w3.heap.size := by simp
    generalize hw4 : w3.setCell ⟨b, 1, none⟩ (.slice (some ⟨g, 0, none⟩) (sp.length + 1) cap) = w4 at *
    clear HL hown3 hgrow3 hfr3 hb3 hp3 ho4 x1 x2 hpm4
    go_wp2_with (go_at_call 213; refine Calls.mono HL4.out ?_; rintro e w5 ⟨rfl, hb5, hk5⟩)
    go_end0
    have hbe : (decS (sp ++ [.cp f t])).size = (decS sp).size + (t - f) := by rw [decS_snoc]; simp [Sp.put]; omega
    refine ⟨rfl, H.out.put (.cp f t) ⟨hft, htl⟩ HB.out _ (by rw [hbe]; exact hb5) (ownsRow_same HO4.out (fun k hk => ?_)) ⟨?_, ?_⟩ ⟨by rw [hbe]; exact hn, hl⟩, (hk3.trans hk4).trans ⟨hk5.os, hk5.output, hk5.size, fun k hk hq => hk5.block k hk (fun e => hq (by show B ≤ k; rw [show k = b from e]; exact HB.out))⟩, (hk5.block pm (by have := HPM.out.1; omega) hbp).trans HPM.out.2⟩
    · have : k = g := by simpa [Value.ownBlock] using hk.symm
      subst this
      exact hk5.block k (World.ownsRow.lt HO4.out k (by simp [Value.ownBlock])).2 hgb.1
    · simpa [Value.ownBlock] using hgb.1
    · simpa [Value.ownBlock] using hgb.2.1
end Go.Proofs.YtleenphlgbklmaaGreatDoor

namespace Go.Proofs.YtleenphlgbklmaaGreatDoor
open Go.RowKit

theorem varsM_pre {m : Nat} {t : Ty} (h : WT m t) : ∀ l, l <+: varsM t l := by
  induction h with
  | var n hn => intro l; rw [varsM_leaf]; split; exact List.prefix_refl _; exact List.prefix_append _ _
  | int => intro l; rw [varsM_int]; exact List.prefix_refl _
  | bool => intro l; rw [varsM_bool]; exact List.prefix_refl _
  | list a _ ih => intro l; rw [varsM_list]; exact ih l
  | pair a b _ _ ih ih2 => intro l; rw [varsM_pair]; exact (ih l).trans (ih2 _)
  | fn a b _ _ ih ih2 => intro l; rw [varsM_fn]; exact (ih l).trans (ih2 _)
theorem varsM_nodup {m : Nat} {t : Ty} (h : WT m t) : ∀ l, l.Nodup → (varsM t l).Nodup := by
  induction h with
  | var n hn =>
    intro l hl
    rw [varsM_leaf]
    split
    · exact hl
    · rename_i e
      refine List.nodup_append.2 ⟨hl, by simp, ?_⟩
      intro a ha b hb
      simp at hb
      subst hb
      intro q
      subst q
      exact e (List.contains_iff_mem.2 ha)
  | int => intro l hl; rw [varsM_int]; exact hl
  | bool => intro l hl; rw [varsM_bool]; exact hl
  | list a _ ih => intro l hl; rw [varsM_list]; exact ih l hl
  | pair a b _ _ ih ih2 => intro l hl; rw [varsM_pair]; exact ih2 _ (ih l hl)
  | fn a b _ _ ih ih2 => intro l hl; rw [varsM_fn]; exact ih2 _ (ih l hl)
theorem cnA_get (ns : List Nat) (m : Nat) (hd : ns.Nodup) (hlt : ∀ x, x ∈ ns → x < m) : ∀ q, q ≤ ns.length → ∀ j, j < q → (cnA ns m q).getD (ns.getD j 0) { data := #[] } = letM j := by
  intro q
  induction q with
  | zero => intro _ j hj; omega
  | succ q ih =>
    intro hq j hj
    have gq : ns.getD q 0 = ns[q] := by simp [List.getD, show q < ns.length by omega]
    have gj : ns.getD j 0 = ns[j] := by simp [List.getD, show j < ns.length by omega]
    by_cases e : j = q
    · subst e
      have : ns.getD j 0 < (cnA ns m j).length := by rw [cnA_len, gj]; exact hlt _ (List.getElem_mem _)
      simp [cnA, List.getD, List.getElem?_set] at this ⊢
      simp [this]
    · have hne : ns.getD q 0 ≠ ns.getD j 0 := by
        rw [gq, gj]
        intro z
        exact (List.pairwise_iff_getElem.1 hd) j q (by omega) (by omega) (by omega) z.symm
      have hi := ih (by omega) j (by omega)
      rw [← hi]
      simp only [cnA]
      generalize ns.getD q 0 = x at *
      generalize ns.getD j 0 = y at *
      simp only [List.getD]
      rw [List.getElem?_set_ne hne]
end Go.Proofs.YtleenphlgbklmaaGreatDoor

namespace Go.Proofs.YtleenphlgbklmaaGreatDoor
open Go.RowKit

/-- the type that a node is, as a tree; variables by their place in the store. -/
inductive Dn (σ : St) : TR → Ty → Prop
  | int (r : TR) : Rp σ r .int → Dn σ r (.mk { data := #[105, 110, 116] } 0 [])
  | bool (r : TR) : Rp σ r .bool → Dn σ r (.mk { data := #[98, 111, 111, 108] } 0 [])
  | var (r : TR) (i : Nat) : Rp σ r (.nd .vr i) → Dn σ r (.mk { data := #[] } i [])
  | list (r : TR) (i : Nat) (x : TR) (a : Ty) : Rp σ r (.nd .ls i) → σ[i]? = some ⟨.ls x, none⟩ → Dn σ x a → Dn σ r (.mk { data := #[108, 105, 115, 116] } 0 [a])
  | pair (r : TR) (i : Nat) (x y : TR) (a c : Ty) : Rp σ r (.nd .pr i) → σ[i]? = some ⟨.pr x y, none⟩ → Dn σ x a → Dn σ y c → Dn σ r (.mk { data := #[112, 97, 105, 114] } 0 [a, c])
  | fn (r : TR) (i : Nat) (x y : TR) (a c : Ty) : Rp σ r (.nd .ar i) → σ[i]? = some ⟨.ar x y, none⟩ → Dn σ x a → Dn σ y c → Dn σ r (.mk { data := #[102, 117, 110] } 0 [a, c])
theorem Dn.root {σ : St} {r : TR} {t : Ty} (h : Dn σ r t) : ∃ r0, Rp σ r r0 ∧ Dn σ r0 t := by
  cases h with
  | int _ h => exact ⟨_, h, .int _ h.root_of⟩
  | bool _ h => exact ⟨_, h, .bool _ h.root_of⟩
  | var _ i h => exact ⟨_, h, .var _ i h.root_of⟩
  | list _ i x a h h1 h2 => exact ⟨_, h, .list _ i x a h.root_of h1 h2⟩
  | pair _ i x y a c h h1 h2 h3 => exact ⟨_, h, .pair _ i x y a c h.root_of h1 h2 h3⟩
  | fn _ i x y a c h h1 h2 h3 => exact ⟨_, h, .fn _ i x y a c h.root_of h1 h2 h3⟩
theorem Dn.det {σ : St} {r : TR} {t : Ty} (h : Dn σ r t) : ∀ {u : Ty}, Dn σ r u → t = u := by
  induction h with
  | int r h => intro u g; cases g with
    | int _ g => rfl
    | bool _ g => cases h.det g
    | var _ i g => cases h.det g
    | list _ i x a g _ _ => cases h.det g
    | pair _ i x y a c g _ _ _ => cases h.det g
    | fn _ i x y a c g _ _ _ => cases h.det g
  | bool r h => intro u g; cases g with
    | int _ g => cases h.det g
    | bool _ g => rfl
    | var _ i g => cases h.det g
    | list _ i x a g _ _ => cases h.det g
    | pair _ i x y a c g _ _ _ => cases h.det g
    | fn _ i x y a c g _ _ _ => cases h.det g
  | var r j h => intro u g; cases g with
    | int _ g => cases h.det g
    | bool _ g => cases h.det g
    | var _ i g =>
      have := h.det g
      simp only [TR.nd.injEq, true_and] at this
      rw [this]
    | list _ i x a g _ _ => cases h.det g
    | pair _ i x y a c g _ _ _ => cases h.det g
    | fn _ i x y a c g _ _ _ => cases h.det g
  | list r j x a h h1 h2 ih => intro u g; cases g with
    | int _ g => cases h.det g
    | bool _ g => cases h.det g
    | var _ i g => cases h.det g
    | list _ i x' a' g g1 g2 =>
      have := h.det g
      simp only [TR.nd.injEq, true_and] at this
      rw [← this, h1] at g1
      simp at g1
      rw [← g1] at g2
      rw [ih g2]
    | pair _ i x y a c g _ _ _ => cases h.det g
    | fn _ i x y a c g _ _ _ => cases h.det g
  | pair r j x y a c h h1 h2 h3 ih ih2 => intro u g; cases g with
    | int _ g => cases h.det g
    | bool _ g => cases h.det g
    | var _ i g => cases h.det g
    | list _ i x a g _ _ => cases h.det g
    | pair _ i x' y' a' c' g g1 g2 g3 =>
      have := h.det g
      simp only [TR.nd.injEq, true_and] at this
      rw [← this, h1] at g1
      simp at g1
      rw [← g1.1] at g2
      rw [← g1.2] at g3
      rw [ih g2, ih2 g3]
    | fn _ i x y a c g _ _ _ => cases h.det g
  | fn r j x y a c h h1 h2 h3 ih ih2 => intro u g; cases g with
    | int _ g => cases h.det g
    | bool _ g => cases h.det g
    | var _ i g => cases h.det g
    | list _ i x a g _ _ => cases h.det g
    | pair _ i x y a c g _ _ _ => cases h.det g
    | fn _ i x' y' a' c' g g1 g2 g3 =>
      have := h.det g
      simp only [TR.nd.injEq, true_and] at this
      rw [← this, h1] at g1
      simp at g1
      rw [← g1.1] at g2
      rw [← g1.2] at g3
      rw [ih g2, ih2 g3]
theorem Dn.wt {σ : St} {r : TR} {t : Ty} (h : Dn σ r t) : WT σ.length t := by
  induction h with
  | int r h => exact .int
  | bool r h => exact .bool
  | var r i h =>
    obtain ⟨nk, _, h⟩ := h.rt
    exact .var i (List.getElem?_eq_some_iff.1 h).1
  | list r i x a _ _ _ ih => exact .list a ih
  | pair r i x y a c _ _ _ _ ih ih2 => exact .pair a c ih ih2
  | fn r i x y a c _ _ _ _ ih ih2 => exact .fn a c ih ih2
/-- the program's store is that one, but for how long the ways are. -/
def SX (w : World) (ad : List Nat) (σ : St) : Prop := ∃ τ, SW w ad τ ∧ Ev σ τ
theorem SX.keep {w w' : World} {ad : List Nat} {σ : St} (h : SX w ad σ) (hk : ∀ b o, b ∈ ad → w.heap[b]? = some o → w'.heap[b]? = some o) : SX w' ad σ := by
  obtain ⟨τ, h1, h2⟩ := h
  exact ⟨τ, h1.keep hk, h2⟩
theorem known_se {ad : List Nat} {σ : St} {r r0 : TR} (h : Rp σ r r0) (w : World) (v : Value) (hs : SX w ad σ) (hv : RV ad r v) :
    Calls Tryz.prog 182 #[v] w fun e w' => ∃ v0, e = .returned v0 ∧ RV ad r0 v0 ∧ SX w' ad σ ∧ Kt ad (fun _ => False) w w' := by
  obtain ⟨τ, h1, h2⟩ := hs
  refine (known_sw ad (h2.rp _ _ h) w v h1 hv).mono ?_
  rintro e w' ⟨v0, τ', rfl, h3, h4, h5, h6⟩
  exact ⟨v0, rfl, h3, ⟨τ', h4, h2.trans h5⟩, h6⟩
def pvE (es : List (TR × Nat × Nat)) : List (TR × Value) := es.map fun e => (e.1, .agg #[.int .i64 e.2.1, .int .i64 e.2.2])
/-- the writer: the text so far, the pieces of it, the variables come to. -/
structure TX (w : World) (ad : List Nat) (σ : St) (B b pm : Nat) (fv : Value) (F : List ByteArray) (ok : World → List Nat → Prop) (l : List Nat) (sp : List Sp) (es : List (TR × Nat × Nat)) : Prop where
  tl : TL w B b pm fv sp
  mp : TMp w pm ad (pvE es)
  st : SX w ad σ
  ns : ok w l
  bs : B ≤ w.heap.size
  pB : B ≤ pm
  adB : ∀ a, a ∈ ad → a < B
  pcs : ∀ e, e ∈ es → ∃ T, Dn σ e.1 T ∧ e.2.1 ≤ e.2.2 ∧ e.2.2 ≤ (decS sp).size ∧ (decS sp).extract e.2.1 e.2.2 = shT F T ∧ varsM T l = l
/-- where the writer's memory may change. -/
def SN (B : Nat) (nm : Nat → Prop) (q : Nat) : Prop := B ≤ q ∨ nm q
/-- what a way to write variables is good for: what it keeps lies ahead of the writer. -/
def OkK (ad : List Nat) (B : Nat) (ok : World → List Nat → Prop) : Prop := ∀ w w' l, ok w l → Kt ad (ST B) w w' → ok w' l
theorem extract_app (a b : ByteArray) (f t : Nat) (h : t ≤ a.size) : (a ++ b).extract f t = a.extract f t := by
  apply ByteArray.ext
  simp only [ByteArray.data_extract, ByteArray.data_append, Array.extract_append]
  have : a.data.size = a.size := rfl
  rw [show t - a.data.size = 0 by omega]
  simp
theorem TL.kt {w w' : World} {ad : List Nat} {B b pm : Nat} {fv : Value} {sp : List Sp} {S : Nat → Prop} (h : TL w B b pm fv sp) (k : Kt ad S w w') (hS : ∀ q, S q → q < B) : TL w' B b pm fv sp := by
  obtain ⟨hB, ⟨sv, h1, h2, h3, h4⟩, h5, h6⟩ := h
  refine ⟨hB, ⟨sv, k.blk _ _ h1 (fun z => by have := hS _ z; omega) ?_, ?_, h3, h4⟩, h5, h6⟩
  · rintro ⟨cs, e, f, he, ht⟩
    simp only [Obj.cells.injEq] at he
    obtain ⟨_, rfl, _⟩ := he
    rcases ht with e | e | e | e <;> cases e
  · refine ⟨h2.1, ?_⟩
    rcases h2.2 with q | ⟨g, cap, cur, rfl, hgB, hg, hr⟩
    · exact .inl q
    · refine .inr ⟨g, cap, cur, rfl, hgB, k.blk _ _ hg (fun z => by have := hS _ z; omega) ?_, hr⟩
      rintro ⟨cs, e, f, he, ht⟩
      simp only [Obj.cells.injEq] at he
      obtain ⟨_, rfl, _⟩ := he
      rcases ht with e | e | e | e <;> cases e
theorem TMp.kt {w w' : World} {mb : Nat} {ad : List Nat} {l : List (TR × Value)} {S : Nat → Prop} (h : TMp w mb ad l) (k : Kt ad S w w') (hS : ¬ S mb) : TMp w' mb ad l :=
  ⟨k.blk _ _ h.mp hS (by rintro ⟨cs, e, f, he, _⟩; cases he), h.ok⟩
section
variable {w w' : World} {ad : List Nat} {σ : St} {B b pm : Nat} {fv : Value} {F : List ByteArray} {ok : World → List Nat → Prop} {l : List Nat} {sp : List Sp} {es : List (TR × Nat × Nat)}
/-- known was asked. -/
theorem TX.kn (h : TX w ad σ B b pm fv F ok l sp es) (hok : OkK ad B ok) (k : Kt ad (fun _ => False) w w') (hs : SX w' ad σ) : TX w' ad σ B b pm fv F ok l sp es :=
  ⟨h.tl.kt k (fun _ z => z.elim), h.mp.kt k id, hs, hok _ _ _ h.ns (k.mono (fun _ _ z => z.elim)), Nat.le_trans h.bs k.size, h.pB, h.adB, h.pcs⟩
theorem TX.kept (h : TX w ad σ B b pm fv F ok l sp es) (hok : OkK ad B ok) (k : Kept w w') : TX w' ad σ B b pm fv F ok l sp es :=
  h.kn hok (Kt.of_kept k) (h.st.keep (fun _ _ _ hb => k.blk hb))
/-- more of the text stands. -/
theorem TX.more (h : TX w ad σ B b pm fv F ok l sp es) (hok : OkK ad B ok) (k : Kq (ST B) w w') {s : Sp} (ht : TL w' B b pm fv (sp ++ [s])) (hm : w'.heap[pm]? = w.heap[pm]?) : TX w' ad σ B b pm fv F ok l (sp ++ [s]) es := by
  refine ⟨ht, ⟨hm.trans h.mp.mp, h.mp.ok⟩, h.st.keep (fun a o ha hb => (k.block a (lt_of_block hb) (fun z => ?_)).trans hb), hok _ _ _ h.ns (Kt.of_kq k), Nat.le_trans h.bs k.size, h.pB, h.adB, ?_⟩
  · have := h.adB a ha
    have z : B ≤ a := z
    omega
  · intro e he
    obtain ⟨T, h1, h2, h3, h4, h5⟩ := h.pcs e he
    have hp : ∃ x, decS (sp ++ [s]) = decS sp ++ x := by
      rw [decS_snoc]
      cases s with
      | tk t => exact ⟨_, rfl⟩
      | cp f t => exact ⟨_, rfl⟩
    obtain ⟨x, hx⟩ := hp
    refine ⟨T, h1, h2, by rw [hx, ByteArray.size_append]; omega, ?_, h5⟩
    rw [hx, extract_app _ _ _ _ h3]
    exact h4
end
end Go.Proofs.YtleenphlgbklmaaGreatDoor

namespace Go.Proofs.YtleenphlgbklmaaGreatDoor
open Go.RowKit

theorem shT_size2 (names : List ByteArray) (M : Nat) (hM : 4 ≤ M) (hn : ∀ n, (names.getD n { data := #[] }).size ≤ M) {m : Nat} {t : Ty} (h : WT m t) : (shT names t).size ≤ (M + 6) * sz t := by
  induction h with
  | var n hn2 =>
    rw [shT_var]
    have := hn n
    simp only [sz, szs]; omega
  | int => rw [shT_int]; have : ({ data := #[105, 110, 116] } : ByteArray).size = 3 := rfl; simp only [sz, szs]; omega
  | bool => rw [shT_bool]; have : ({ data := #[98, 111, 111, 108] } : ByteArray).size = 4 := rfl; simp only [sz, szs]; omega
  | list a _ ih =>
    rw [shT_list]
    simp only [ByteArray.size_append, sz, szs, Nat.mul_add]
    have h1 : ({ data := #[91] } : ByteArray).size = 1 := rfl
    have h2 : ({ data := #[93] } : ByteArray).size = 1 := rfl
    omega
  | pair a b _ _ ih ih2 =>
    rw [shT_pair]
    simp only [ByteArray.size_append, sz, szs, Nat.mul_add]
    have h1 : ({ data := #[40] } : ByteArray).size = 1 := rfl
    have h2 : ({ data := #[41] } : ByteArray).size = 1 := rfl
    have h3 : ({ data := #[44, 32] } : ByteArray).size = 2 := rfl
    omega
  | fn a b _ _ ih ih2 =>
    rw [shT_fn]
    generalize (a.kind.data.toList == ({ data := #[102, 117, 110] } : ByteArray).data.toList) = q
    simp only [ByteArray.size_append, sz, szs, Nat.mul_add]
    have h1 := brkT_size q (shT names a)
    have h2 : ({ data := #[32, 45, 62, 32] } : ByteArray).size = 4 := rfl
    omega
theorem varsM_idem {m : Nat} {t : Ty} (h : WT m t) : ∀ l l', varsM t l <+: l' → varsM t l' = l' := by
  induction h with
  | var n hn =>
    intro l l' hp
    have hm : n ∈ l' := by
      refine hp.subset ?_
      rw [varsM_leaf]
      split
      · rename_i e
        exact List.contains_iff_mem.1 e
      · simp
    rw [varsM_leaf]
    have : inB l' n = true := List.contains_iff_mem.2 hm
    rw [this]
    rfl
  | int => intro l l' hp; exact varsM_int l'
  | bool => intro l l' hp; exact varsM_bool l'
  | list a _ ih => intro l l' hp; rw [varsM_list] at hp ⊢; exact ih l l' hp
  | pair a b ha hb ih ih2 =>
    intro l l' hp
    rw [varsM_pair] at hp ⊢
    rw [ih l l' ((varsM_pre hb _).trans hp)]
    exact ih2 _ l' hp
  | fn a b ha hb ih ih2 =>
    intro l l' hp
    rw [varsM_fn] at hp ⊢
    rw [ih l l' ((varsM_pre hb _).trans hp)]
    exact ih2 _ l' hp
theorem extract_tail (a b : ByteArray) : (a ++ b).extract a.size (a ++ b).size = b := by
  apply ByteArray.ext
  apply Array.ext'
  rw [ByteArray.size_append, ByteArray.data_extract, ByteArray.data_append]
  have e1 : a.size = a.data.toList.length := by rw [Array.length_toList]; rfl
  have e2 : b.size = b.data.toList.length := by rw [Array.length_toList]; rfl
  have d1 : List.drop a.size a.data.toList = [] := List.drop_eq_nil_of_le (by omega)
  have d2 : List.take b.size b.data.toList = b.data.toList := List.take_of_length_le (by omega)
  simp [List.extract, List.drop_append, d1, d2]
theorem sz_pos (t : Ty) : 1 ≤ sz t := by cases t; simp [sz]
/-- what a writing goes by. -/
structure WE where
  ad : List Nat
  σ : St
  B : Nat
  b : Nat
  pm : Nat
  fv : Value
  F : List ByteArray
  ok : World → List Nat → Prop
  nm : Nat → Prop
  L : List Nat
def WE.TX (E : WE) (w : World) (l : List Nat) (sp : List Sp) (es : List (TR × Nat × Nat)) : Prop := Go.Proofs.YtleenphlgbklmaaGreatDoor.TX w E.ad E.σ E.B E.b E.pm E.fv E.F E.ok l sp es
structure WE.Ok (E : WE) : Prop where
  okk : OkK E.ad E.B E.ok
  nmB : ∀ q, E.nm q → q < E.B
  short : ∀ n, (E.F.getD n { data := #[] }).size ≤ 900
def WPost (E : WE) (w w' : World) (t : Ty) (l : List Nat) (sp : List Sp) (es : List (TR × Nat × Nat)) (txt : ByteArray) (n k : Nat) : Prop :=
  ∃ sp' es', E.TX w' (varsM t l) sp' es' ∧ decS sp' = decS sp ++ txt ∧ (decS sp').size ≤ (decS sp).size + n ∧ sp'.length ≤ sp.length + n ∧ (∀ e, e ∈ es' → e ∈ es ∨ ∃ T, Dn E.σ e.1 T ∧ sz T ≤ k) ∧ Kt E.ad (SN E.B E.nm) w w'
def STyp (E : WE) (r : TR) (t : Ty) : Prop := ∀ (w : World) (v : Value) (l : List Nat) (sp : List Sp) (es : List (TR × Nat × Nat)), RV E.ad r v → E.TX w l sp es → varsM t l <+: E.L → (decS sp).size + 1000 * sz t ≤ 2147483647 → sp.length + 1000 * sz t ≤ 1000000000 →
  Calls Tryz.prog 145 #[.pointer (some ⟨E.b, 0, none⟩), v] w fun e w' => e = .returned (.tuple #[]) ∧ WPost E w w' t l sp es (shT E.F t) (1000 * sz t) (sz t)
def SFst (E : WE) (r : TR) (t : Ty) : Prop := ∀ (w : World) (v : Value) (l : List Nat) (sp : List Sp) (es : List (TR × Nat × Nat)), RV E.ad r v → E.TX w l sp es → varsM t l <+: E.L → (decS sp).size + 1000 * sz t ≤ 2147483647 → sp.length + 1000 * sz t ≤ 1000000000 →
  Calls Tryz.prog 184 #[.pointer (some ⟨E.b, 0, none⟩), v] w fun e w' => e = .returned (.tuple #[]) ∧ WPost E w w' t l sp es (shT E.F t) (1000 * sz t) (sz t - 1)
def SLef (E : WE) (r : TR) (t : Ty) : Prop := ∀ (w : World) (v : Value) (l : List Nat) (sp : List Sp) (es : List (TR × Nat × Nat)), RV E.ad r v → E.TX w l sp es → varsM t l <+: E.L → (decS sp).size + 1000 * sz t + 2 ≤ 2147483647 → sp.length + 1000 * sz t + 2 ≤ 1000000000 →
  Calls Tryz.prog 215 #[.pointer (some ⟨E.b, 0, none⟩), v] w fun e w' => e = .returned (.tuple #[]) ∧ WPost E w w' t l sp es (brkT (t.kind.data.toList == ({ data := #[102, 117, 110] } : ByteArray).data.toList) (shT E.F t)) (1000 * sz t + 2) (sz t)
theorem askT_some {r : TR} : ∀ {l : List (TR × Value)} {i j : Nat} {x : Value}, askT r l i = some (j, x) → (r, x) ∈ l := by
  intro l
  induction l with
  | nil => intro i j x h; cases h
  | cons e l ih =>
    intro i j x h
    simp only [askT] at h
    split at h
    · rename_i q
      rw [TR.eqb_iff] at q
      simp at h
      rw [q, ← h.2]
      simp
    · exact List.mem_cons_of_mem _ (ih h)
theorem askT_none {r : TR} : ∀ {l : List (TR × Value)} {i : Nat}, askT r l i = none ↔ ∀ e, e ∈ l → e.1 ≠ r := by
  intro l
  induction l with
  | nil => intro i; simp [askT]
  | cons e l ih =>
    intro i
    simp only [askT]
    constructor
    · intro h
      split at h
      · cases h
      · rename_i q
        intro x hx
        simp at hx
        rcases hx with rfl | hx
        · exact fun z => q (TR.eqb_iff.2 z.symm)
        · exact ih.1 h x hx
    · intro h
      have : r.eqb e.1 = false := TR.eqb_ff.2 (fun z => h e (by simp) z.symm)
      simp only [this, Bool.false_eq_true, if_false]
      exact ih.2 (fun x hx => h x (by simp [hx]))
theorem Tryz.zPiece (w : World) : (zeroValue 306).run Tryz.prog w = .ok (.agg #[.int .i64 0, .int .i64 0]) w := by kernel_rfl
theorem TX.piece {w : World} {ad : List Nat} {σ : St} {B b pm : Nat} {fv : Value} {F : List ByteArray} {ok : World → List Nat → Prop} {l : List Nat} {sp : List Sp} {es : List (TR × Nat × Nat)} (h : TX w ad σ B b pm fv F ok l sp es) (hok : OkK ad B ok) {r : TR} {v : Value} (hv : RV ad r v) {f : Nat} {t : Ty} (hd : Dn σ r t) (hf : f ≤ (decS sp).size) (he : (decS sp).extract f (decS sp).size = shT F t) (hl : varsM t l = l) (o : Obj) (ho : o = .map (tEnts ad (pvE es ++ [(r, .agg #[.int .i64 f, .int .i64 (decS sp).size])]) 0).toArray ((pvE es).length + 1)) :
    TX (mapSet w pm o) ad σ B b pm fv F ok l sp (es ++ [(r, f, (decS sp).size)]) := by
  have hm := h.mp.mp
  have hk : Kt ad (ST B) w (mapSet w pm o) := ⟨rfl, rfl, by simp [mapSet], fun q o' hq hn _ => by
    rw [mapSet_other _ _ _ _ (fun z => hn (by rw [z]; exact h.pB))]
    exact hq⟩
  have hbp : b ≠ pm := fun z => by
    obtain ⟨sv, h1, _⟩ := h.tl.cs
    rw [z, hm] at h1
    cases h1
  refine ⟨?_, ?_, ?_, hok _ _ _ h.ns hk, by simpa [mapSet] using h.bs, h.pB, h.adB, ?_⟩
  · obtain ⟨hB, ⟨sv, h1, h2, h3, h4⟩, h5, h6⟩ := h.tl
    refine ⟨hB, ⟨sv, by rw [mapSet_other _ _ _ _ hbp]; exact h1, ownsRow_same h2 (fun k hk => mapSet_other _ _ _ _ (fun z => h4 (by rw [hk, z]))), h3, h4⟩, h5, h6⟩
  · have := h.mp.put hv (.agg #[.int .i64 f, .int .i64 (decS sp).size])
    rw [ho]
    simpa [pvE] using this
  · obtain ⟨τ, h1, h2⟩ := h.st
    exact ⟨τ, h1.mapSet hm o, h2⟩
  · intro e hmem
    simp at hmem
    rcases hmem with hmem | rfl
    · exact h.pcs e hmem
    · exact ⟨t, hd, hf, Nat.le_refl _, he, hl⟩
theorem tl_ne {w : World} {ad : List Nat} {σ : St} {B b pm : Nat} {fv : Value} {F : List ByteArray} {ok : World → List Nat → Prop} {l : List Nat} {sp : List Sp} {es : List (TR × Nat × Nat)} (h : TX w ad σ B b pm fv F ok l sp es) : pm ≠ b := fun z => by
  obtain ⟨sv, h1, _⟩ := h.tl.cs
  have hm := h.mp.mp
  rw [z, h1] at hm
  cases hm
set_option maxRecDepth 20000 in
set_option maxHeartbeats 1000000 in
theorem typ_hit (E : WE) (hE : E.Ok) {r r0 : TR} {t : Ty} (hr : Rp E.σ r r0) (hd : Dn E.σ r0 t) (w : World) (v : Value) (l : List Nat) (sp : List Sp) (es : List (TR × Nat × Nat)) (hv : RV E.ad r v) (h : E.TX w l sp es) (hn : (decS sp).size + 1000 * sz t ≤ 2147483647) (hl : sp.length + 1000 * sz t ≤ 1000000000) {j : Nat} {x : Value} (ha : askT r0 (pvE es) 0 = some (j, x)) :
    Calls Tryz.prog 145 #[.pointer (some ⟨E.b, 0, none⟩), v] w fun e w' => e = .returned (.tuple #[]) ∧ WPost E w w' t l sp es (shT E.F t) (1000 * sz t) (sz t) := by
  obtain ⟨⟨q, f, u⟩, hmem, hq⟩ := List.mem_map.1 (askT_some ha)
  simp only [Prod.mk.injEq] at hq
  obtain ⟨rfl, rfl⟩ := hq
  obtain ⟨T, h1, h2, h3, h4, h5⟩ := h.pcs _ hmem
  have := h1.det hd
  subst this
  have h2 : f ≤ u := h2
  have h3 : u ≤ (decS sp).size := h3
  have h4 : (decS sp).extract f u = shT E.F T := h4
  have hz := sz_pos T
  have hts : u - f ≤ 1000 * sz T := by
    have e1 := shT_size2 E.F 900 (by decide) hE.short hd.wt
    have e2 : (shT E.F T).size = u - f := by
      rw [← h4]
      simp [ByteArray.size_extract]
      omega
    omega
  have HK : Hid _ := known_se hr w v h.st hv
  have HG : Hid (∀ (w1 : World) (v0 : Value), RV E.ad q v0 → SX w1 E.ad E.σ → Kt E.ad (fun _ => False) w w1 → w1.cell? ⟨E.b, 3, none⟩ = some (.map (some E.pm)) ∧ (Instr.lookup 300 (.map (some E.pm)) v0 true).run Tryz.prog w1 = .ok (.tuple #[.agg #[.int .i64 f, .int .i64 u], .bool true]) w1 ∧ E.TX w1 l sp es) := by
    intro w1 v0 hv0 hs hk
    have hT := h.kn hE.okk hk hs
    refine ⟨hT.tl.c.2.2.1, ?_, hT⟩
    obtain ⟨τ, s1, _⟩ := hs
    have := run_tmlook s1 hv0 hT.mp 300 306 _ Tryz.underlying300 (Tryz.zPiece w1)
    rw [ha] at this
    exact this
  have HA : Hid (∀ (w1 : World), E.TX w1 l sp es → Kt E.ad (SN E.B E.nm) w w1 → Calls Tryz.prog 183 #[.pointer (some ⟨E.b, 0, none⟩), .agg #[.int .i64 f, .int .i64 u]] w1 fun e w' => e = .returned (.tuple #[]) ∧ WPost E w w' T l sp es (shT E.F T) (1000 * sz T) (sz T)) := by
    intro w1 hT hk
    refine (again_any hT.tl hT.bs (lt_of_block hT.mp.mp) (tl_ne hT) f u h2 h3 (by omega) (by omega)).mono ?_
    rintro e w' ⟨rfl, hL, hk', hp⟩
    have hx : decS (sp ++ [.cp f u]) = decS sp ++ shT E.F T := by rw [decS_snoc, ← h4]; rfl
    refine ⟨rfl, sp ++ [.cp f u], es, ?_, hx, ?_, by simp; omega, fun e he => .inl he, hk.trans ((Kt.of_kq hk').mono (fun _ _ z => .inl z))⟩
    · rw [h5]
      exact hT.more hE.okk hk' hL hp
    · rw [hx, ByteArray.size_append]
      have e2 : (shT E.F T).size = u - f := by
        rw [← h4]
        simp [ByteArray.size_extract]
        omega
      omega
  clear h hmem h1 h4 h5 ha hd hr hv
  go_enter Tryz.func145, Tryz.ntmps145
  go_wp2_with fail
  refine Calls.mono HK.out ?_
  rintro e w1 ⟨v0, rfl, hv0, hs1, hk1⟩
  obtain ⟨T0, u0, rfl⟩ := hv0.iface
  obtain ⟨g1, g2, g3⟩ := HG.out w1 _ hv0 hs1 hk1
  have hka : Kept w1 (w1.alloc (.cells #[.int .i64 f, .int .i64 u] 306)) := Kept.alloc _ _
  have HA1 : Hid _ := HA.out _ (g3.kept hE.okk hka) ((hk1.mono (fun _ _ z => z.elim)).trans (Kt.of_kept hka))
  clear HG HA HK hs1 hv0 g3 hka
  go_wp2_with fail
  refine Calls.mono HA1.out ?_
  rintro e w2 ⟨rfl, hW⟩
  have HW : Hid _ := hW
  clear hW HA1
  go_wp2
  exact bodyPost_ret (results_none Tryz.results145 _ _ _) rfl ⟨rfl, HW.out⟩
set_option maxRecDepth 20000 in
set_option maxHeartbeats 1000000 in
theorem typ_miss (E : WE) (hE : E.Ok) {r r0 : TR} {t : Ty} (hr : Rp E.σ r r0) (hd : Dn E.σ r0 t) (hF : SFst E r0 t) (w : World) (v : Value) (l : List Nat) (sp : List Sp) (es : List (TR × Nat × Nat)) (hv : RV E.ad r v) (h : E.TX w l sp es) (hp : varsM t l <+: E.L) (hn : (decS sp).size + 1000 * sz t ≤ 2147483647) (hl : sp.length + 1000 * sz t ≤ 1000000000) (ha : askT r0 (pvE es) 0 = none) :
    Calls Tryz.prog 145 #[.pointer (some ⟨E.b, 0, none⟩), v] w fun e w' => e = .returned (.tuple #[]) ∧ WPost E w w' t l sp es (shT E.F t) (1000 * sz t) (sz t) := by
  have hz := sz_pos t
  have HK : Hid _ := known_se hr w v h.st hv
  have HG : Hid (∀ (w1 : World) (v0 : Value), RV E.ad r0 v0 → SX w1 E.ad E.σ → Kt E.ad (fun _ => False) w w1 → w1.cell? ⟨E.b, 3, none⟩ = some (.map (some E.pm)) ∧ w1.cell? ⟨E.b, 2, none⟩ = some (.int .i64 (decS sp).size) ∧ (Instr.lookup 300 (.map (some E.pm)) v0 true).run Tryz.prog w1 = .ok (.tuple #[.agg #[.int .i64 0, .int .i64 0], .bool false]) w1 ∧ E.TX w1 l sp es) := by
    intro w1 v0 hv0 hs hk
    have hT := h.kn hE.okk hk hs
    refine ⟨hT.tl.c.2.2.1, hT.tl.c.2.1, ?_, hT⟩
    obtain ⟨τ, s1, _⟩ := hs
    have := run_tmlook s1 hv0 hT.mp 300 306 _ Tryz.underlying300 (Tryz.zPiece w1)
    rw [ha] at this
    exact this
  have HP : Hid (∀ (w2 : World) (v0 : Value) (sp' : List Sp) (es' : List (TR × Nat × Nat)), RV E.ad r0 v0 → E.TX w2 (varsM t l) sp' es' → decS sp' = decS sp ++ shT E.F t → (∀ e, e ∈ es' → e ∈ es ∨ ∃ T, Dn E.σ e.1 T ∧ sz T ≤ sz t - 1) → w2.cell? ⟨E.b, 3, none⟩ = some (.map (some E.pm)) ∧ w2.cell? ⟨E.b, 2, none⟩ = some (.int .i64 (decS sp').size) ∧ (Instr.mapUpdate 300 (.map (some E.pm)) v0 (.agg #[.int .i64 (decS sp).size, .int .i64 (decS sp').size])).run Tryz.prog w2 = .ok () (mapSet w2 E.pm (.map (tEnts E.ad (pvE es' ++ [(r0, .agg #[.int .i64 (decS sp).size, .int .i64 (decS sp').size])]) 0).toArray ((pvE es').length + 1))) ∧ E.TX (mapSet w2 E.pm (.map (tEnts E.ad (pvE es' ++ [(r0, .agg #[.int .i64 (decS sp).size, .int .i64 (decS sp').size])]) 0).toArray ((pvE es').length + 1))) (varsM t l) sp' (es' ++ [(r0, (decS sp).size, (decS sp').size)]) ∧ Kt E.ad (SN E.B E.nm) w2 (mapSet w2 E.pm (.map (tEnts E.ad (pvE es' ++ [(r0, .agg #[.int .i64 (decS sp).size, .int .i64 (decS sp').size])]) 0).toArray ((pvE es').length + 1)))) := by
    intro w2 v0 sp' es' hv0 hT hx hes
    have hno : askT r0 (pvE es') 0 = none := by
      rw [askT_none]
      intro e he z
      obtain ⟨e', he', rfl⟩ := List.mem_map.1 he
      have z : e'.1 = r0 := z
      rcases hes e' he' with q | ⟨T, q1, q2⟩
      · exact (askT_none.1 ha) _ (List.mem_map_of_mem q) z
      · rw [z] at q1
        have := q1.det hd
        subst this
        omega
    refine ⟨hT.tl.c.2.2.1, hT.tl.c.2.1, ?_, ?_, ?_⟩
    · obtain ⟨τ, s1, _⟩ := hT.st
      exact run_tmput s1 hv0 hT.mp 300 306 _ Tryz.underlying300 hno
    · refine TX.piece hT hE.okk hv0 hd (by rw [hx, ByteArray.size_append]; omega) ?_ (varsM_idem hd.wt l _ (List.prefix_refl _)) _ rfl
      rw [hx]
      exact extract_tail _ _
    · refine ⟨rfl, rfl, by simp [mapSet], fun q o' hq hn _ => ?_⟩
      rw [mapSet_other _ _ _ _ (fun z => hn (.inl (by rw [z]; exact hT.pB)))]
      exact hq
  have HF : Hid _ := hF
  clear hr hv hF h ha
  go_enter Tryz.func145, Tryz.ntmps145
  go_wp2_with fail
  refine Calls.mono HK.out ?_
  rintro e w1 ⟨v0, rfl, hv0, hs1, hk1⟩
  obtain ⟨T0, u0, rfl⟩ := hv0.iface
  obtain ⟨g1, g2, g3, g4⟩ := HG.out w1 _ hv0 hs1 hk1
  clear HG HK hs1
  have hka : Kept w1 (w1.alloc (.cells #[.int .i64 0, .int .i64 0] 306)) := Kept.alloc _ _
  have g4 := g4.kept hE.okk hka
  have hk2 : Kt E.ad (SN E.B E.nm) w (w1.alloc (.cells #[.int .i64 0, .int .i64 0] 306)) := (hk1.mono (fun _ _ z => z.elim)).trans (Kt.of_kept hka)
  have c2 := g4.tl.c.2.1
  have HFF : Hid _ := HF.out _ _ _ _ _ hv0 g4 hp hn hl
  clear hka g4 HF hk1
  go_wp2_with fail
  refine Calls.mono HFF.out ?_
  rintro e w2 ⟨rfl, sp', es', hT, hx, hs1, hs2, hes, hk3⟩
  have hkd : Kept w2 w2.drew := ⟨rfl, rfl, Nat.le_refl _, fun _ _ => rfl⟩
  obtain ⟨p1, p2, p3, p4, p5⟩ := HP.out w2.drew _ sp' es' hv0 (hT.kept hE.okk hkd) hx hes
  have p1 : w2.cell? ⟨E.b, 3, none⟩ = some (.map (some E.pm)) := p1
  have p2 : w2.cell? ⟨E.b, 2, none⟩ = some (.int .i64 (decS sp').size) := p2
  have p5 := (Kt.of_kept (ad := E.ad) (S := SN E.B E.nm) hkd).trans p5
  have HX : Hid _ := hx
  have HES : Hid _ := hes
  have P4 : Hid _ := p4
  clear HFF HP hT hx hes hkd p4
  go_wp2_with fail
  go_region
  go_end0
  refine ⟨rfl, sp', _, P4.out, HX.out, hs1, hs2, ?_, (hk2.trans hk3).trans p5⟩
  intro e he
  simp at he
  rcases he with he | rfl
  · rcases HES.out e he with q | ⟨T, q1, q2⟩
    · exact .inl q
    · exact .inr ⟨T, q1, by omega⟩
  · exact .inr ⟨t, hd, Nat.le_refl _⟩
theorem typ_of (E : WE) (hE : E.Ok) {r r0 : TR} {t : Ty} (hr : Rp E.σ r r0) (hd : Dn E.σ r0 t) (hF : SFst E r0 t) : STyp E r t := by
  intro w v l sp es hv h hp hn hl
  cases ha : askT r0 (pvE es) 0 with
  | none => exact typ_miss E hE hr hd hF w v l sp es hv h hp hn hl ha
  | some x => exact typ_hit E hE hr hd w v l sp es hv h hn hl ha
end Go.Proofs.YtleenphlgbklmaaGreatDoor

namespace Go.Proofs.YtleenphlgbklmaaGreatDoor
open Go.RowKit

theorem Tryz.taBB (v : Value) (w : World) : (Instr.typeAssert (.iface 343 (.agg #[v])) 156 343 true).run Tryz.prog w = .ok (.tuple #[.agg #[v], .bool true]) w := by kernel_rfl
theorem Tryz.taVB (v : Value) (w : World) : (Instr.typeAssert (.iface 216 v) 156 343 true).run Tryz.prog w = .ok (.tuple #[.agg #[.string { data := #[] }], .bool false]) w := by kernel_rfl
theorem Tryz.taLB (v : Value) (w : World) : (Instr.typeAssert (.iface 222 v) 156 343 true).run Tryz.prog w = .ok (.tuple #[.agg #[.string { data := #[] }], .bool false]) w := by kernel_rfl
theorem Tryz.taPB (v : Value) (w : World) : (Instr.typeAssert (.iface 226 v) 156 343 true).run Tryz.prog w = .ok (.tuple #[.agg #[.string { data := #[] }], .bool false]) w := by kernel_rfl
theorem Tryz.taAB (v : Value) (w : World) : (Instr.typeAssert (.iface 230 v) 156 343 true).run Tryz.prog w = .ok (.tuple #[.agg #[.string { data := #[] }], .bool false]) w := by kernel_rfl
theorem Tryz.taVV (v : Value) (w : World) : (Instr.typeAssert (.iface 216 v) 156 216 true).run Tryz.prog w = .ok (.tuple #[v, .bool true]) w := by kernel_rfl
theorem Tryz.taVL (v : Value) (w : World) : (Instr.typeAssert (.iface 216 v) 156 222 true).run Tryz.prog w = .ok (.tuple #[.pointer none, .bool false]) w := by kernel_rfl
theorem Tryz.taVP (v : Value) (w : World) : (Instr.typeAssert (.iface 216 v) 156 226 true).run Tryz.prog w = .ok (.tuple #[.pointer none, .bool false]) w := by kernel_rfl
theorem Tryz.taVA (v : Value) (w : World) : (Instr.typeAssert (.iface 216 v) 156 230 true).run Tryz.prog w = .ok (.tuple #[.pointer none, .bool false]) w := by kernel_rfl
theorem Tryz.taLV (v : Value) (w : World) : (Instr.typeAssert (.iface 222 v) 156 216 true).run Tryz.prog w = .ok (.tuple #[.pointer none, .bool false]) w := by kernel_rfl
theorem Tryz.taLL (v : Value) (w : World) : (Instr.typeAssert (.iface 222 v) 156 222 true).run Tryz.prog w = .ok (.tuple #[v, .bool true]) w := by kernel_rfl
theorem Tryz.taLP (v : Value) (w : World) : (Instr.typeAssert (.iface 222 v) 156 226 true).run Tryz.prog w = .ok (.tuple #[.pointer none, .bool false]) w := by kernel_rfl
theorem Tryz.taLA (v : Value) (w : World) : (Instr.typeAssert (.iface 222 v) 156 230 true).run Tryz.prog w = .ok (.tuple #[.pointer none, .bool false]) w := by kernel_rfl
theorem Tryz.taPV (v : Value) (w : World) : (Instr.typeAssert (.iface 226 v) 156 216 true).run Tryz.prog w = .ok (.tuple #[.pointer none, .bool false]) w := by kernel_rfl
theorem Tryz.taPL (v : Value) (w : World) : (Instr.typeAssert (.iface 226 v) 156 222 true).run Tryz.prog w = .ok (.tuple #[.pointer none, .bool false]) w := by kernel_rfl
theorem Tryz.taPP (v : Value) (w : World) : (Instr.typeAssert (.iface 226 v) 156 226 true).run Tryz.prog w = .ok (.tuple #[v, .bool true]) w := by kernel_rfl
theorem Tryz.taPA (v : Value) (w : World) : (Instr.typeAssert (.iface 226 v) 156 230 true).run Tryz.prog w = .ok (.tuple #[.pointer none, .bool false]) w := by kernel_rfl
theorem Tryz.taAV (v : Value) (w : World) : (Instr.typeAssert (.iface 230 v) 156 216 true).run Tryz.prog w = .ok (.tuple #[.pointer none, .bool false]) w := by kernel_rfl
theorem Tryz.taAL (v : Value) (w : World) : (Instr.typeAssert (.iface 230 v) 156 222 true).run Tryz.prog w = .ok (.tuple #[.pointer none, .bool false]) w := by kernel_rfl
theorem Tryz.taAP (v : Value) (w : World) : (Instr.typeAssert (.iface 230 v) 156 226 true).run Tryz.prog w = .ok (.tuple #[.pointer none, .bool false]) w := by kernel_rfl
theorem Tryz.taAA (v : Value) (w : World) : (Instr.typeAssert (.iface 230 v) 156 230 true).run Tryz.prog w = .ok (.tuple #[v, .bool true]) w := by kernel_rfl
theorem Tryz.taBA (v : Value) (w : World) : (Instr.typeAssert (.iface 343 v) 156 230 true).run Tryz.prog w = .ok (.tuple #[.pointer none, .bool false]) w := by kernel_rfl
end Go.Proofs.YtleenphlgbklmaaGreatDoor

namespace Go.Proofs.YtleenphlgbklmaaGreatDoor
open Go.RowKit

theorem SX.ls {w : World} {ad : List Nat} {σ : St} (h : SX w ad σ) {i c : Nat} {x : TR} (hi : σ[i]? = some ⟨.ls x, none⟩) (hc : ad[i]? = some c) : ∃ p, RV ad x p ∧ w.cell? ⟨c, 1, none⟩ = some p := by
  obtain ⟨τ, h1, h2⟩ := h
  obtain ⟨sv, o, h3, h4, p, h5, rfl⟩ := h1.blk i _ _ c (h2.root hi) hc
  exact ⟨p, h5, by simp [World.cell?, h3]⟩
theorem SX.pr {w : World} {ad : List Nat} {σ : St} (h : SX w ad σ) {i c : Nat} {x y : TR} (hi : σ[i]? = some ⟨.pr x y, none⟩) (hc : ad[i]? = some c) : ∃ p q, RV ad x p ∧ RV ad y q ∧ w.cell? ⟨c, 1, none⟩ = some p ∧ w.cell? ⟨c, 2, none⟩ = some q := by
  obtain ⟨τ, h1, h2⟩ := h
  obtain ⟨sv, o, h3, h4, p, q, h5, h6, rfl⟩ := h1.blk i _ _ c (h2.root hi) hc
  exact ⟨p, q, h5, h6, by simp [World.cell?, h3], by simp [World.cell?, h3]⟩
theorem SX.ar {w : World} {ad : List Nat} {σ : St} (h : SX w ad σ) {i c : Nat} {x y : TR} (hi : σ[i]? = some ⟨.ar x y, none⟩) (hc : ad[i]? = some c) : ∃ p q, RV ad x p ∧ RV ad y q ∧ w.cell? ⟨c, 1, none⟩ = some p ∧ w.cell? ⟨c, 2, none⟩ = some q := by
  obtain ⟨τ, h1, h2⟩ := h
  obtain ⟨sv, o, h3, h4, p, q, h5, h6, rfl⟩ := h1.blk i _ _ c (h2.root hi) hc
  exact ⟨p, q, h5, h6, by simp [World.cell?, h3], by simp [World.cell?, h3]⟩
theorem Kept.drw {w w' : World} (h : Kept w w') : Kept w w'.drew := ⟨h.os, h.output, h.size, h.block⟩
/-- tokens, in the writer. -/
theorem tok_step (E : WE) (hE : E.Ok) (w : World) (l : List Nat) (sp : List Sp) (es : List (TR × Nat × Nat)) (h : E.TX w l sp es) (s : ByteArray) (hs : 0 < s.size) (hn : (decS sp).size + s.size ≤ 2147483647) (hl : sp.length + 1 ≤ 1000000000) :
    Calls Tryz.prog 214 #[.pointer (some ⟨E.b, 0, none⟩), .string s] w fun e w' => e = .returned (.tuple #[]) ∧ E.TX w' l (sp ++ [.tk s]) es ∧ Kt E.ad (SN E.B E.nm) w w' := by
  refine (tks_any h.tl h.bs (lt_of_block h.mp.mp) (tl_ne h) s hs hn hl).mono ?_
  rintro e w' ⟨rfl, hL, hk, hp⟩
  exact ⟨rfl, h.more hE.okk hk hL hp, (Kt.of_kq hk).mono (fun _ _ z => .inl z)⟩
theorem decS_tk (sp : List Sp) (s : ByteArray) : decS (sp ++ [.tk s]) = decS sp ++ s := by rw [decS_snoc]; rfl
theorem decS_tk_size (sp : List Sp) (s : ByteArray) : (decS (sp ++ [.tk s])).size = (decS sp).size + s.size := by rw [decS_tk]; simp
theorem TL.out {E : WE} {w : World} {l : List Nat} {sp : List Sp} {es : List (TR × Nat × Nat)} (h : E.TX w l sp es) : TL w E.B E.b E.pm E.fv sp := h.tl
set_option maxRecDepth 20000 in
set_option maxHeartbeats 1000000 in
theorem first_base (E : WE) (hE : E.Ok) (s : ByteArray) (hs : s = { data := #[105, 110, 116] } ∨ s = { data := #[98, 111, 111, 108] }) (r : TR) (hr : ∀ v, RV E.ad r v → v = .iface 343 (.agg #[.string s])) : SFst E r (.mk s 0 []) := by
  intro w v l sp es hv h hp hn hl
  have hsz : sz (.mk s 0 []) = 1 := by simp [sz, szs]
  have hks : s.size ≤ 4 ∧ 0 < s.size := by rcases hs with rfl | rfl <;> decide
  have hx : shT E.F (.mk s 0 []) = s := by rcases hs with rfl | rfl; exact shT_int _; exact shT_bool _
  have hvm : varsM (.mk s 0 []) l = l := by rcases hs with rfl | rfl; exact varsM_int l; exact varsM_bool l
  rw [hsz] at hn hl ⊢
  have e := hr v hv
  subst e
  have HT : Hid (∀ w', Kept w w' → Calls Tryz.prog 214 #[.pointer (some ⟨E.b, 0, none⟩), .string s] w' fun e w'' => e = .returned (.tuple #[]) ∧ E.TX w'' l (sp ++ [.tk s]) es ∧ Kt E.ad (SN E.B E.nm) w' w'') := fun w' hk => tok_step E hE w' l sp es (h.kept hE.okk hk) s hks.2 (by omega) (by omega)
  have hta := Tryz.taBB (.string s) w
  have hka : Kept w (w.alloc (.cells #[.string s] 343)) := Kept.alloc _ _
  have HT2 : Hid _ := HT.out _ hka
  clear h hv hr HT
  go_enter Tryz.func184, Tryz.ntmps184
  go_wp2_with fail
  refine Calls.mono HT2.out ?_
  rintro e w1 ⟨rfl, hT, hk⟩
  go_wp2
  go_end0
  refine ⟨rfl, sp ++ [.tk s], es, ?_, ?_, ?_, by simp, fun e he => .inl he, (Kt.of_kept hka).trans hk⟩
  · rw [hvm]; exact hT
  · rw [hx, decS_tk]
  · rw [decS_tk_size]; omega
set_option maxRecDepth 20000 in
set_option maxHeartbeats 1000000 in
theorem first_list (E : WE) (hE : E.Ok) (i c : Nat) (x : TR) (a : Ty) (hi : E.σ[i]? = some ⟨.ls x, none⟩) (hc : E.ad[i]? = some c) (ih : STyp E x a) : SFst E (.nd .ls i) (.mk { data := #[108, 105, 115, 116] } 0 [a]) := by
  intro w v l sp es hv h hp hn hl
  have hsz : sz (.mk { data := #[108, 105, 115, 116] } 0 [a]) = sz a + 1 := by simp [sz, szs]
  obtain ⟨c', hc', rfl⟩ := hv
  rw [show Kd.ls.tp = 222 from rfl]
  rw [hc] at hc'
  simp at hc'
  subst hc'
  rw [varsM_list] at hp
  rw [hsz] at hn hl ⊢
  rw [shT_list]
  have s1 : ({ data := #[91] } : ByteArray).size = 1 := rfl
  have s2 : ({ data := #[93] } : ByteArray).size = 1 := rfl
  have H1 : Hid _ := tok_step E hE w l sp es h { data := #[91] } (by decide) (by omega) (by omega)
  have HX : Hid (∀ w1 l sp es, E.TX w1 l sp es → ∃ p, RV E.ad x p ∧ w1.cell? ⟨c, 1, none⟩ = some p) := fun w1 l sp es hT => hT.st.ls hi hc
  have HI : Hid (∀ (w1 : World) (p : Value), RV E.ad x p → E.TX w1 l (sp ++ [.tk { data := #[91] }]) es → Calls Tryz.prog 145 #[.pointer (some ⟨E.b, 0, none⟩), p] w1 fun e w' => e = .returned (.tuple #[]) ∧ WPost E w1 w' a l (sp ++ [.tk { data := #[91] }]) es (shT E.F a) (1000 * sz a) (sz a)) := fun w1 p hp1 hT => ih w1 p l _ es hp1 hT hp (by rw [decS_tk_size]; omega) (by simp; omega)
  have HC : Hid (∀ (w2 : World) (l2 : List Nat) (sp2 : List Sp) (es2 : List (TR × Nat × Nat)), E.TX w2 l2 sp2 es2 → (decS sp2).size ≤ (decS (sp ++ [.tk { data := #[91] }])).size + 1000 * sz a → sp2.length ≤ (sp ++ [Sp.tk { data := #[91] }]).length + 1000 * sz a → Calls Tryz.prog 214 #[.pointer (some ⟨E.b, 0, none⟩), .string { data := #[93] }] w2 fun e w' => e = .returned (.tuple #[]) ∧ E.TX w' l2 (sp2 ++ [.tk { data := #[93] }]) es2 ∧ Kt E.ad (SN E.B E.nm) w2 w') := fun w2 l2 sp2 es2 hT q1 q2 => tok_step E hE w2 l2 sp2 es2 hT { data := #[93] } (by decide) (by rw [decS_tk_size] at q1; omega) (by simp at q2; omega)
  have t1 := Tryz.taLB (.pointer (some ⟨c, 0, none⟩)) w
  have t2 := Tryz.taLV (.pointer (some ⟨c, 0, none⟩)) w
  have t3 := Tryz.taLL (.pointer (some ⟨c, 0, none⟩)) w
  clear h ih hi hc hp
  go_enter Tryz.func184, Tryz.ntmps184
  go_wp2_with fail
  refine Calls.mono H1.out ?_
  rintro e w1 ⟨rfl, hT1, hk1⟩
  obtain ⟨p, hp, hx1⟩ := HX.out w1 _ _ _ hT1
  have HI1 : Hid _ := HI.out w1 p hp hT1
  clear H1 HX HI hT1
  obtain ⟨T, u, rfl⟩ := hp.iface
  go_wp2_with fail
  refine Calls.mono HI1.out ?_
  rintro e w2 ⟨rfl, sp2, es2, hT2, hd2, q1, q2, hes, hk2⟩
  have HC2 : Hid _ := HC.out w2 _ sp2 es2 hT2 q1 q2
  have HD : Hid _ := hd2
  have HES : Hid _ := hes
  have Q1 : Hid _ := q1
  have Q2 : Hid _ := q2
  clear HC HI1 hT2 hd2 hes q1 q2
  go_wp2_with fail
  refine Calls.mono HC2.out ?_
  rintro e w3 ⟨rfl, hT3, hk3⟩
  clear HC2
  go_wp2
  go_end0
  have q1 := Q1.out
  have q2 := Q2.out
  rw [decS_tk_size] at q1
  simp at q2
  refine ⟨rfl, sp2 ++ [.tk { data := #[93] }], es2, ?_, ?_, ?_, by simp; omega, ?_, (hk1.trans hk2).trans hk3⟩
  · rw [varsM_list]; exact hT3
  · rw [decS_tk, HD.out, decS_tk]; simp [ByteArray.append_assoc]
  · rw [decS_tk_size]; omega
  · intro e he
    rcases HES.out e he with q | ⟨T, h1, h2⟩
    · exact .inl q
    · exact .inr ⟨T, h1, by omega⟩
end Go.Proofs.YtleenphlgbklmaaGreatDoor

namespace Go.Proofs.YtleenphlgbklmaaGreatDoor
open Go.RowKit

set_option maxRecDepth 20000 in
set_option maxHeartbeats 1000000 in
theorem first_pair (E : WE) (hE : E.Ok) (i c : Nat) (x y : TR) (a d : Ty) (hi : E.σ[i]? = some ⟨.pr x y, none⟩) (hc : E.ad[i]? = some c) (hpre : ∀ l, varsM a l <+: varsM d (varsM a l)) (ih : STyp E x a) (ih2 : STyp E y d) : SFst E (.nd .pr i) (.mk { data := #[112, 97, 105, 114] } 0 [a, d]) := by
  intro w v l sp es hv h hp hn hl
  have hsz : sz (.mk { data := #[112, 97, 105, 114] } 0 [a, d]) = sz a + sz d + 1 := by simp [sz, szs]
  obtain ⟨c', hc', rfl⟩ := hv
  rw [show Kd.pr.tp = 226 from rfl]
  rw [hc] at hc'
  simp at hc'
  subst hc'
  rw [varsM_pair] at hp
  rw [hsz] at hn hl ⊢
  rw [shT_pair]
  have s1 : ({ data := #[40] } : ByteArray).size = 1 := rfl
  have s2 : ({ data := #[41] } : ByteArray).size = 1 := rfl
  have s3 : ({ data := #[44, 32] } : ByteArray).size = 2 := rfl
  have H1 : Hid _ := tok_step E hE w l sp es h { data := #[40] } (by decide) (by omega) (by omega)
  have HX : Hid (∀ w1 l sp es, E.TX w1 l sp es → ∃ p q, RV E.ad x p ∧ RV E.ad y q ∧ w1.cell? ⟨c, 1, none⟩ = some p ∧ w1.cell? ⟨c, 2, none⟩ = some q) := fun w1 l sp es hT => hT.st.pr hi hc
  have HI : Hid (∀ (w1 : World) (p : Value), RV E.ad x p → E.TX w1 l (sp ++ [.tk { data := #[40] }]) es → Calls Tryz.prog 145 #[.pointer (some ⟨E.b, 0, none⟩), p] w1 fun e w' => e = .returned (.tuple #[]) ∧ WPost E w1 w' a l (sp ++ [.tk { data := #[40] }]) es (shT E.F a) (1000 * sz a) (sz a)) := fun w1 p hp1 hT => ih w1 p l _ es hp1 hT ((hpre l).trans hp) (by rw [decS_tk_size]; omega) (by simp; omega)
  have HC : Hid (∀ (w2 : World) (l2 : List Nat) (sp2 : List Sp) (es2 : List (TR × Nat × Nat)), E.TX w2 l2 sp2 es2 → (decS sp2).size ≤ (decS (sp ++ [.tk { data := #[40] }])).size + 1000 * sz a → sp2.length ≤ (sp ++ [Sp.tk { data := #[40] }]).length + 1000 * sz a → Calls Tryz.prog 214 #[.pointer (some ⟨E.b, 0, none⟩), .string { data := #[44, 32] }] w2 fun e w' => e = .returned (.tuple #[]) ∧ E.TX w' l2 (sp2 ++ [.tk { data := #[44, 32] }]) es2 ∧ Kt E.ad (SN E.B E.nm) w2 w') := fun w2 l2 sp2 es2 hT q1 q2 => tok_step E hE w2 l2 sp2 es2 hT { data := #[44, 32] } (by decide) (by rw [decS_tk_size] at q1; omega) (by simp at q2; omega)
  have HI2 : Hid (∀ (w3 : World) (q : Value) (sp2 : List Sp) (es2 : List (TR × Nat × Nat)), RV E.ad y q → E.TX w3 (varsM a l) (sp2 ++ [.tk { data := #[44, 32] }]) es2 → (decS sp2).size ≤ (decS (sp ++ [.tk { data := #[40] }])).size + 1000 * sz a → sp2.length ≤ (sp ++ [Sp.tk { data := #[40] }]).length + 1000 * sz a → Calls Tryz.prog 145 #[.pointer (some ⟨E.b, 0, none⟩), q] w3 fun e w' => e = .returned (.tuple #[]) ∧ WPost E w3 w' d (varsM a l) (sp2 ++ [.tk { data := #[44, 32] }]) es2 (shT E.F d) (1000 * sz d) (sz d)) := fun w3 q sp2 es2 hq hT q1 q2 => ih2 w3 q _ _ es2 hq hT hp (by rw [decS_tk_size] at q1 ⊢; omega) (by simp at q2 ⊢; omega)
  have HC2 : Hid (∀ (w4 : World) (l4 : List Nat) (sp2 sp4 : List Sp) (es4 : List (TR × Nat × Nat)), E.TX w4 l4 sp4 es4 → (decS sp2).size ≤ (decS (sp ++ [.tk { data := #[40] }])).size + 1000 * sz a → sp2.length ≤ (sp ++ [Sp.tk { data := #[40] }]).length + 1000 * sz a → (decS sp4).size ≤ (decS (sp2 ++ [.tk { data := #[44, 32] }])).size + 1000 * sz d → sp4.length ≤ (sp2 ++ [Sp.tk { data := #[44, 32] }]).length + 1000 * sz d → Calls Tryz.prog 214 #[.pointer (some ⟨E.b, 0, none⟩), .string { data := #[41] }] w4 fun e w' => e = .returned (.tuple #[]) ∧ E.TX w' l4 (sp4 ++ [.tk { data := #[41] }]) es4 ∧ Kt E.ad (SN E.B E.nm) w4 w') := fun w4 l4 sp2 sp4 es4 hT q1 q2 q3 q4 => tok_step E hE w4 l4 sp4 es4 hT { data := #[41] } (by decide) (by rw [decS_tk_size] at q1 q3; omega) (by simp at q2 q4; omega)
  have t1 := Tryz.taPB (.pointer (some ⟨c, 0, none⟩)) w
  have t2 := Tryz.taPV (.pointer (some ⟨c, 0, none⟩)) w
  have t3 := Tryz.taPL (.pointer (some ⟨c, 0, none⟩)) w
  have t4 := Tryz.taPP (.pointer (some ⟨c, 0, none⟩)) w
  clear h ih ih2 hi hc hp hpre
  go_enter Tryz.func184, Tryz.ntmps184
  go_wp2_with fail
  refine Calls.mono H1.out ?_
  rintro e w1 ⟨rfl, hT1, hk1⟩
  obtain ⟨p, q, hp, hq, hx1, _⟩ := HX.out w1 _ _ _ hT1
  have HI1 : Hid _ := HI.out w1 p hp hT1
  clear H1 HI hT1
  obtain ⟨T, u, rfl⟩ := hp.iface
  go_wp2_with fail
  refine Calls.mono HI1.out ?_
  rintro e w2 ⟨rfl, sp2, es2, hT2, hd2, q1, q2, hes, hk2⟩
  have HC1 : Hid _ := HC.out w2 _ sp2 es2 hT2 q1 q2
  have HD : Hid _ := hd2
  have HES : Hid _ := hes
  have Q1 : Hid _ := q1
  have Q2 : Hid _ := q2
  clear HC HI1 hT2 hd2 hes q1 q2 hx1
  go_wp2_with fail
  refine Calls.mono HC1.out ?_
  rintro e w3 ⟨rfl, hT3, hk3⟩
  obtain ⟨p', q', _, hq', _, hx3⟩ := HX.out w3 _ _ _ hT3
  have HI3 : Hid _ := HI2.out w3 q' sp2 es2 hq' hT3 Q1.out Q2.out
  clear HC1 HX HI2 hT3 hq
  obtain ⟨T2, u2, rfl⟩ := hq'.iface
  go_wp2_with fail
  refine Calls.mono HI3.out ?_
  rintro e w4 ⟨rfl, sp4, es4, hT4, hd4, q3, q4, hes4, hk4⟩
  have HC4 : Hid _ := HC2.out w4 _ sp2 sp4 es4 hT4 Q1.out Q2.out q3 q4
  have HD4 : Hid _ := hd4
  have HES4 : Hid _ := hes4
  have Q3 : Hid _ := q3
  have Q4 : Hid _ := q4
  clear HC2 HI3 hT4 hd4 hes4 q3 q4
  go_wp2_with fail
  refine Calls.mono HC4.out ?_
  rintro e w5 ⟨rfl, hT5, hk5⟩
  clear HC4
  go_wp2
  go_end0
  have q1 := Q1.out
  have q2 := Q2.out
  have q3 := Q3.out
  have q4 := Q4.out
  rw [decS_tk_size] at q1 q3
  simp at q2 q4
  refine ⟨rfl, sp4 ++ [.tk { data := #[41] }], es4, ?_, ?_, ?_, by simp; omega, ?_, (((hk1.trans hk2).trans hk3).trans hk4).trans hk5⟩
  · rw [varsM_pair]; exact hT5
  · rw [decS_tk, HD4.out, decS_tk, HD.out, decS_tk]; simp [ByteArray.append_assoc]
  · rw [decS_tk_size]; omega
  · intro e he
    rcases HES4.out e he with q | ⟨T, h1, h2⟩
    · rcases HES.out e q with q | ⟨T, h1, h2⟩
      · exact .inl q
      · exact .inr ⟨T, h1, by omega⟩
    · exact .inr ⟨T, h1, by omega⟩
end Go.Proofs.YtleenphlgbklmaaGreatDoor

namespace Go.Proofs.YtleenphlgbklmaaGreatDoor
open Go.RowKit

set_option maxRecDepth 20000 in
set_option maxHeartbeats 1000000 in
theorem left_no (E : WE) (hE : E.Ok) (r r0 : TR) (t : Ty) (hr : Rp E.σ r r0) (hta : ∀ v, RV E.ad r0 v → ∀ w, (Instr.typeAssert v 156 230 true).run Tryz.prog w = .ok (.tuple #[.pointer none, .bool false]) w) (hk : (t.kind.data.toList == ({ data := #[102, 117, 110] } : ByteArray).data.toList) = false) (ih : STyp E r t) : SLef E r t := by
  intro w v l sp es hv h hp hn hl
  rw [hk]
  have HK : Hid _ := known_se hr w v h.st hv
  have HI : Hid (∀ w1, SX w1 E.ad E.σ → Kt E.ad (fun _ => False) w w1 → Calls Tryz.prog 145 #[.pointer (some ⟨E.b, 0, none⟩), v] w1 fun e w' => e = .returned (.tuple #[]) ∧ WPost E w1 w' t l sp es (shT E.F t) (1000 * sz t) (sz t)) := fun w1 hs hk => ih w1 v l sp es hv (h.kn hE.okk hk hs) hp (by omega) (by omega)
  have HTA : Hid _ := hta
  clear h ih hk hta hr
  obtain ⟨T, u, rfl⟩ := hv.iface
  go_enter Tryz.func215, Tryz.ntmps215
  go_wp2_with fail
  refine Calls.mono HK.out ?_
  rintro e w1 ⟨v0, rfl, hv0, hs1, hk1⟩
  obtain ⟨T0, u0, rfl⟩ := hv0.iface
  have t1 := HTA.out _ hv0 w1
  have HI1 : Hid _ := HI.out w1 hs1 hk1
  clear HK HI HTA hs1
  go_wp2_with fail
  refine Calls.mono HI1.out ?_
  rintro e w2 ⟨rfl, sp2, es2, hT2, hd2, q1, q2, hes, hk2⟩
  have HD : Hid _ := hd2
  have HES : Hid _ := hes
  clear HI1 hd2 hes
  go_wp2
  exact bodyPost_ret (results_none Tryz.results215 _ _ _) rfl ⟨rfl, sp2, es2, hT2, HD.out, by omega, by omega, HES.out, (hk1.mono (fun _ _ z => z.elim)).trans hk2⟩
set_option maxRecDepth 20000 in
set_option maxHeartbeats 1000000 in
theorem left_yes (E : WE) (hE : E.Ok) (r : TR) (j : Nat) (t : Ty) (hr : Rp E.σ r (.nd .ar j)) (hk : (t.kind.data.toList == ({ data := #[102, 117, 110] } : ByteArray).data.toList) = true) (ih : STyp E r t) : SLef E r t := by
  intro w v l sp es hv h hp hn hl
  rw [hk]
  have s1 : ({ data := #[40] } : ByteArray).size = 1 := rfl
  have s2 : ({ data := #[41] } : ByteArray).size = 1 := rfl
  have HK : Hid _ := known_se hr w v h.st hv
  have H1 : Hid (∀ w1, SX w1 E.ad E.σ → Kt E.ad (fun _ => False) w w1 → Calls Tryz.prog 214 #[.pointer (some ⟨E.b, 0, none⟩), .string { data := #[40] }] w1 fun e w' => e = .returned (.tuple #[]) ∧ E.TX w' l (sp ++ [.tk { data := #[40] }]) es ∧ Kt E.ad (SN E.B E.nm) w1 w') := fun w1 hs hk => tok_step E hE w1 l sp es (h.kn hE.okk hk hs) { data := #[40] } (by decide) (by omega) (by omega)
  have HI : Hid (∀ (w1 : World), E.TX w1 l (sp ++ [.tk { data := #[40] }]) es → Calls Tryz.prog 145 #[.pointer (some ⟨E.b, 0, none⟩), v] w1 fun e w' => e = .returned (.tuple #[]) ∧ WPost E w1 w' t l (sp ++ [.tk { data := #[40] }]) es (shT E.F t) (1000 * sz t) (sz t)) := fun w1 hT => ih w1 v l _ es hv hT hp (by rw [decS_tk_size]; omega) (by simp; omega)
  have HC : Hid (∀ (w2 : World) (l2 : List Nat) (sp2 : List Sp) (es2 : List (TR × Nat × Nat)), E.TX w2 l2 sp2 es2 → (decS sp2).size ≤ (decS (sp ++ [.tk { data := #[40] }])).size + 1000 * sz t → sp2.length ≤ (sp ++ [Sp.tk { data := #[40] }]).length + 1000 * sz t → Calls Tryz.prog 214 #[.pointer (some ⟨E.b, 0, none⟩), .string { data := #[41] }] w2 fun e w' => e = .returned (.tuple #[]) ∧ E.TX w' l2 (sp2 ++ [.tk { data := #[41] }]) es2 ∧ Kt E.ad (SN E.B E.nm) w2 w') := fun w2 l2 sp2 es2 hT q1 q2 => tok_step E hE w2 l2 sp2 es2 hT { data := #[41] } (by decide) (by rw [decS_tk_size] at q1; omega) (by simp at q2; omega)
  clear h ih hk hr
  obtain ⟨T, u, rfl⟩ := hv.iface
  go_enter Tryz.func215, Tryz.ntmps215
  go_wp2_with fail
  refine Calls.mono HK.out ?_
  rintro e w1 ⟨v0, rfl, hv0, hs1, hk1⟩
  obtain ⟨c, _, rfl⟩ := hv0
  rw [show Kd.ar.tp = 230 from rfl]
  have t1 := Tryz.taAA (.pointer (some ⟨c, 0, none⟩)) w1
  have HI1 : Hid _ := H1.out w1 hs1 hk1
  clear HK H1 hs1
  go_wp2_with fail
  refine Calls.mono HI1.out ?_
  rintro e w2 ⟨rfl, hT2, hk2⟩
  have HI2 : Hid _ := HI.out w2 hT2
  clear HI HI1 hT2
  go_wp2_with fail
  refine Calls.mono HI2.out ?_
  rintro e w3 ⟨rfl, sp2, es2, hT3, hd2, q1, q2, hes, hk3⟩
  have HC2 : Hid _ := HC.out w3 _ sp2 es2 hT3 q1 q2
  have HD : Hid _ := hd2
  have HES : Hid _ := hes
  have Q1 : Hid _ := q1
  have Q2 : Hid _ := q2
  clear HC HI2 hT3 hd2 hes q1 q2
  go_wp2_with fail
  refine Calls.mono HC2.out ?_
  rintro e w4 ⟨rfl, hT4, hk4⟩
  clear HC2
  go_wp2
  go_end0
  have q1 := Q1.out
  have q2 := Q2.out
  rw [decS_tk_size] at q1
  simp at q2
  refine ⟨rfl, sp2 ++ [.tk { data := #[41] }], es2, hT4, ?_, ?_, by simp; omega, HES.out, (((hk1.mono (fun _ _ z => z.elim)).trans hk2).trans hk3).trans hk4⟩
  · rw [decS_tk, HD.out, decS_tk]; simp [brkT, ByteArray.append_assoc]
  · rw [decS_tk_size]; omega
set_option maxRecDepth 20000 in
set_option maxHeartbeats 1000000 in
theorem first_fn (E : WE) (hE : E.Ok) (i c : Nat) (x y : TR) (a d : Ty) (hi : E.σ[i]? = some ⟨.ar x y, none⟩) (hc : E.ad[i]? = some c) (hpre : ∀ l, varsM a l <+: varsM d (varsM a l)) (ih : SLef E x a) (ih2 : STyp E y d) : SFst E (.nd .ar i) (.mk { data := #[102, 117, 110] } 0 [a, d]) := by
  intro w v l sp es hv h hp hn hl
  have hsz : sz (.mk { data := #[102, 117, 110] } 0 [a, d]) = sz a + sz d + 1 := by simp [sz, szs]
  obtain ⟨c', hc', rfl⟩ := hv
  rw [show Kd.ar.tp = 230 from rfl]
  rw [hc] at hc'
  simp at hc'
  subst hc'
  rw [varsM_fn] at hp
  rw [hsz] at hn hl ⊢
  rw [shT_fn]
  have s3 : ({ data := #[32, 45, 62, 32] } : ByteArray).size = 4 := rfl
  have HX : Hid (∀ w1 l sp es, E.TX w1 l sp es → ∃ p q, RV E.ad x p ∧ RV E.ad y q ∧ w1.cell? ⟨c, 1, none⟩ = some p ∧ w1.cell? ⟨c, 2, none⟩ = some q) := fun w1 l sp es hT => hT.st.ar hi hc
  obtain ⟨p, q, hp1, hq1, hx1, _⟩ := HX.out w _ _ _ h
  have HI : Hid _ := ih w p l sp es hp1 h ((hpre l).trans hp) (by omega) (by omega)
  obtain ⟨T, u, rfl⟩ := hp1.iface
  generalize hg : brkT (a.kind.data.toList == ({ data := #[102, 117, 110] } : ByteArray).data.toList) (shT E.F a) = left at *
  have HC : Hid (∀ (w2 : World) (l2 : List Nat) (sp2 : List Sp) (es2 : List (TR × Nat × Nat)), E.TX w2 l2 sp2 es2 → (decS sp2).size ≤ (decS sp).size + (1000 * sz a + 2) → sp2.length ≤ sp.length + (1000 * sz a + 2) → Calls Tryz.prog 214 #[.pointer (some ⟨E.b, 0, none⟩), .string { data := #[32, 45, 62, 32] }] w2 fun e w' => e = .returned (.tuple #[]) ∧ E.TX w' l2 (sp2 ++ [.tk { data := #[32, 45, 62, 32] }]) es2 ∧ Kt E.ad (SN E.B E.nm) w2 w') := fun w2 l2 sp2 es2 hT q1 q2 => tok_step E hE w2 l2 sp2 es2 hT { data := #[32, 45, 62, 32] } (by decide) (by omega) (by omega)
  have HI2 : Hid (∀ (w3 : World) (q : Value) (sp2 : List Sp) (es2 : List (TR × Nat × Nat)), RV E.ad y q → E.TX w3 (varsM a l) (sp2 ++ [.tk { data := #[32, 45, 62, 32] }]) es2 → (decS sp2).size ≤ (decS sp).size + (1000 * sz a + 2) → sp2.length ≤ sp.length + (1000 * sz a + 2) → Calls Tryz.prog 145 #[.pointer (some ⟨E.b, 0, none⟩), q] w3 fun e w' => e = .returned (.tuple #[]) ∧ WPost E w3 w' d (varsM a l) (sp2 ++ [.tk { data := #[32, 45, 62, 32] }]) es2 (shT E.F d) (1000 * sz d) (sz d)) := fun w3 q sp2 es2 hq hT q1 q2 => ih2 w3 q _ _ es2 hq hT hp (by rw [decS_tk_size]; omega) (by simp; omega)
  have t1 := Tryz.taAB (.pointer (some ⟨c, 0, none⟩)) w
  have t2 := Tryz.taAV (.pointer (some ⟨c, 0, none⟩)) w
  have t3 := Tryz.taAL (.pointer (some ⟨c, 0, none⟩)) w
  have t4 := Tryz.taAP (.pointer (some ⟨c, 0, none⟩)) w
  have t5 := Tryz.taAA (.pointer (some ⟨c, 0, none⟩)) w
  clear h ih ih2 hi hc hp hpre hq1
  go_enter Tryz.func184, Tryz.ntmps184
  go_wp2_with fail
  refine Calls.mono HI.out ?_
  rintro e w2 ⟨rfl, sp2, es2, hT2, hd2, q1, q2, hes, hk2⟩
  have HC1 : Hid _ := HC.out w2 _ sp2 es2 hT2 q1 q2
  have HD : Hid _ := hd2
  have HES : Hid _ := hes
  have Q1 : Hid _ := q1
  have Q2 : Hid _ := q2
  clear HC HI hT2 hd2 hes q1 q2 hx1
  go_wp2_with fail
  refine Calls.mono HC1.out ?_
  rintro e w3 ⟨rfl, hT3, hk3⟩
  obtain ⟨p', q', _, hq', _, hx3⟩ := HX.out w3 _ _ _ hT3
  have HI3 : Hid _ := HI2.out w3 q' sp2 es2 hq' hT3 Q1.out Q2.out
  clear HC1 HX HI2 hT3
  obtain ⟨T2, u2, rfl⟩ := hq'.iface
  go_wp2_with fail
  refine Calls.mono HI3.out ?_
  rintro e w4 ⟨rfl, sp4, es4, hT4, hd4, q3, q4, hes4, hk4⟩
  have HD4 : Hid _ := hd4
  have HES4 : Hid _ := hes4
  have Q3 : Hid _ := q3
  have Q4 : Hid _ := q4
  clear HI3 hd4 hes4 q3 q4
  go_wp2
  go_end0
  have q1 := Q1.out
  have q2 := Q2.out
  have q3 := Q3.out
  have q4 := Q4.out
  rw [decS_tk_size] at q3
  simp at q4
  refine ⟨rfl, sp4, es4, ?_, ?_, by omega, by omega, ?_, (hk2.trans hk3).trans hk4⟩
  · rw [varsM_fn]; exact hT4
  · rw [HD4.out, decS_tk, HD.out]; simp [ByteArray.append_assoc]
  · intro e he
    rcases HES4.out e he with q | ⟨T, h1, h2⟩
    · rcases HES.out e q with q | ⟨T, h1, h2⟩
      · exact .inl q
      · exact .inr ⟨T, h1, by omega⟩
    · exact .inr ⟨T, h1, by omega⟩
/-- the writer writes every type. -/
theorem typ_all (E : WE) (hE : E.Ok) (hlen : E.ad.length = E.σ.length) (hvar : ∀ (i : Nat) (nm : ByteArray) (g : Bool), E.σ[i]? = some ⟨.vr nm g, none⟩ → SFst E (.nd .vr i) (.mk { data := #[] } i [])) {r : TR} {t : Ty} (h : Dn E.σ r t) : STyp E r t ∧ SLef E r t := by
  have gad : ∀ (i : Nat) (nd : Nd), E.σ[i]? = some nd → ∃ c, E.ad[i]? = some c := fun i nd hi => ⟨E.ad[i]'(by have := (List.getElem?_eq_some_iff.1 hi).1; omega), by simp⟩
  induction h with
  | int r hr =>
    have := typ_of E hE hr (.int _ hr.root_of) (first_base E hE { data := #[105, 110, 116] } (.inl rfl) .int (fun v hv => hv))
    exact ⟨this, left_no E hE r _ _ hr (fun v hv w => by rw [show v = _ from hv]; exact Tryz.taBA _ w) (by decide) this⟩
  | bool r hr =>
    have := typ_of E hE hr (.bool _ hr.root_of) (first_base E hE { data := #[98, 111, 111, 108] } (.inr rfl) .bool (fun v hv => hv))
    exact ⟨this, left_no E hE r _ _ hr (fun v hv w => by rw [show v = _ from hv]; exact Tryz.taBA _ w) (by decide) this⟩
  | var r i hr =>
    have hv : ∃ nm g, E.σ[i]? = some ⟨.vr nm g, none⟩ := by
      obtain ⟨nk, h1, h2⟩ := hr.rt
      cases nk with
      | vr nm g => exact ⟨nm, g, h2⟩
      | ls _ => cases h1
      | pr _ _ => cases h1
      | ar _ _ => cases h1
    obtain ⟨nm, g, hv⟩ := hv
    have := typ_of E hE hr (.var _ i hr.root_of) (hvar i nm g hv)
    exact ⟨this, left_no E hE r _ _ hr (fun v hv w => by obtain ⟨c, _, rfl⟩ := hv; exact Tryz.taVA _ w) (by simp [Ty.kind]) this⟩
  | list r i x a hr hi ha ih =>
    obtain ⟨c, hc⟩ := gad i _ hi
    have := typ_of E hE hr (.list _ i x a hr.root_of hi ha) (first_list E hE i c x a hi hc ih.1)
    exact ⟨this, left_no E hE r _ _ hr (fun v hv w => by obtain ⟨c, _, rfl⟩ := hv; exact Tryz.taLA _ w) (by simp [Ty.kind]) this⟩
  | pair r i x y a d hr hi ha hd ih ih2 =>
    obtain ⟨c, hc⟩ := gad i _ hi
    have := typ_of E hE hr (.pair _ i x y a d hr.root_of hi ha hd) (first_pair E hE i c x y a d hi hc (fun l => varsM_pre hd.wt _) ih.1 ih2.1)
    exact ⟨this, left_no E hE r _ _ hr (fun v hv w => by obtain ⟨c, _, rfl⟩ := hv; exact Tryz.taPA _ w) (by simp [Ty.kind]) this⟩
  | fn r i x y a d hr hi ha hd ih ih2 =>
    obtain ⟨c, hc⟩ := gad i _ hi
    have := typ_of E hE hr (.fn _ i x y a d hr.root_of hi ha hd) (first_fn E hE i c x y a d hi hc (fun l => varsM_pre hd.wt _) ih.2 ih2.1)
    exact ⟨this, left_yes E hE r i _ hr (by simp [Ty.kind]) this⟩
end Go.Proofs.YtleenphlgbklmaaGreatDoor

namespace Go.Proofs.YtleenphlgbklmaaGreatDoor
open Go.RowKit

theorem Tryz.mkP (w : World) : (Instr.makeMap 300 none).run Tryz.prog w = .ok (.map (some w.heap.size)) (w.alloc (.map #[] 0)) := by kernel_rfl
set_option maxRecDepth 20000 in
set_option maxHeartbeats 1000000 in
theorem lay_any (w : World) (v : Value) (ad : List Nat) (σ : St) (r : TR) (t : Ty) (K : FuncId) (caps : Array Value) (F : List ByteArray) (ok : World → List Nat → Prop) (nm : Nat → Prop) (L : List Nat) (hs : SX w ad σ) (hv : RV ad r v) (hd : Dn σ r t) (hok0 : ok w []) (hokk : OkK ad w.heap.size ok) (hnm : ∀ q, nm q → q < w.heap.size) (short : ∀ n, (F.getD n { data := #[] }).size ≤ 900)
    (hvar : ∀ (b pm i : Nat) (nm' : ByteArray) (g : Bool), σ[i]? = some ⟨.vr nm' g, none⟩ → SFst ⟨ad, σ, w.heap.size, b, pm, .func (.func K) #[] caps, F, ok, nm, L⟩ (.nd .vr i) (.mk { data := #[] } i [])) (hp : varsM t [] <+: L) (hsz : 1000 * sz t ≤ 1000000000) :
    Calls Tryz.prog 111 #[v, .func (.func K) #[] caps] w fun e w' => ∃ b pm sp es, e = .returned (.pointer (some ⟨b, 0, none⟩)) ∧ TX w' ad σ w.heap.size b pm (.func (.func K) #[] caps) F ok (varsM t []) sp es ∧ decS sp = shT F t ∧ Kt ad nm w w' := by
  have m1 := Tryz.mkP w
  obtain ⟨T, u, rfl⟩ := hv.iface
  have hlen : ad.length = σ.length := by obtain ⟨τ, h1, h2⟩ := hs; rw [h1.len, h2.len]
  have hadB : ∀ a, a ∈ ad → a < w.heap.size := fun a ha => by
    obtain ⟨τ, h1, _⟩ := hs
    obtain ⟨o, h3, _⟩ := h1.tb ha
    exact lt_of_block h3
  have hk2 : Kept w ((w.alloc (.map #[] 0)).alloc (.cells #[.func (.func K) #[] caps, .slice none 0 0, .int .i64 0, .map (some w.heap.size)] 303)) := (Kept.alloc w _).trans (Kept.alloc _ _)
  have hT : TX ((w.alloc (.map #[] 0)).alloc (.cells #[.func (.func K) #[] caps, .slice none 0 0, .int .i64 0, .map (some w.heap.size)] 303)) ad σ w.heap.size (w.heap.size + 1) w.heap.size (.func (.func K) #[] caps) F ok [] [] [] := by
    have hb : ((w.alloc (.map #[] 0)).alloc (.cells #[.func (.func K) #[] caps, .slice none 0 0, .int .i64 0, .map (some w.heap.size)] 303)).heap[w.heap.size + 1]? = some (.cells #[.func (.func K) #[] caps, .slice none 0 0, .int .i64 0, .map (some w.heap.size)] 303 (0, 0)) := by
      have := heap_alloc_new (w.alloc (.map #[] 0)) (.cells #[.func (.func K) #[] caps, .slice none 0 0, .int .i64 0, .map (some w.heap.size)] 303)
      simpa using this
    have hm : ((w.alloc (.map #[] 0)).alloc (.cells #[.func (.func K) #[] caps, .slice none 0 0, .int .i64 0, .map (some w.heap.size)] 303)).heap[w.heap.size]? = some (.map #[] 0) := (Kept.alloc _ _).blk (heap_alloc_new _ _)
    refine ⟨⟨by omega, ⟨.slice none 0 0, hb, World.ownsRow_nil _ _ _ _, by simp [Value.ownBlock], by simp [Value.ownBlock]⟩, by decide, by simp⟩, ⟨hm, by simp [pvE]⟩, hs.keep (fun a o _ ho => hk2.blk ho), hokk _ _ _ hok0 (Kt.of_kept hk2), hk2.size, Nat.le_refl _, hadB, by simp⟩
  have HT : Hid _ := (typ_all ⟨ad, σ, w.heap.size, w.heap.size + 1, w.heap.size, .func (.func K) #[] caps, F, ok, nm, L⟩ ⟨hokk, hnm, short⟩ hlen (hvar _ _) hd).1 _ _ [] [] [] hv hT hp (by show 0 + _ ≤ _; omega) (by show 0 + _ ≤ _; omega)
  clear hT hs hv hd hok0 hokk hvar hadB hlen hp
  go_enter Tryz.func111, Tryz.ntmps111
  go_wp2_with fail
  refine Calls.mono HT.out ?_
  rintro e w1 ⟨rfl, sp, es, hT1, hd1, _, _, _, hk1⟩
  have HT1 : Hid _ := hT1
  have HD1 : Hid _ := hd1
  clear HT hT1 hd1
  go_wp2
  go_ret
  refine ⟨_, _, sp, es, rfl, HT1.out, ?_, ((Kt.of_kept hk2).trans hk1).mono ?_⟩
  · have e := HD1.out
    rw [e]
    apply ByteArray.ext
    simp [decS]
  · rintro q hq (z | z)
    · have z : w.heap.size ≤ q := z
      omega
    · exact z
theorem Kept.below' {w w' : World} (h : Below w.heap.size w w') : Kept w w' := ⟨h.os, h.output, h.size, h.block⟩
set_option maxRecDepth 20000 in
set_option maxHeartbeats 1000000 in
theorem show_any (w : World) (v : Value) (ad : List Nat) (σ : St) (r : TR) (t : Ty) (K : FuncId) (caps : Array Value) (F : List ByteArray) (ok : World → List Nat → Prop) (nm : Nat → Prop) (L : List Nat) (hs : SX w ad σ) (hv : RV ad r v) (hd : Dn σ r t) (hok0 : ok w []) (hokk : OkK ad w.heap.size ok) (hnm : ∀ q, nm q → q < w.heap.size) (short : ∀ n, (F.getD n { data := #[] }).size ≤ 900)
    (hvar : ∀ (b pm i : Nat) (nm' : ByteArray) (g : Bool), σ[i]? = some ⟨.vr nm' g, none⟩ → SFst ⟨ad, σ, w.heap.size, b, pm, .func (.func K) #[] caps, F, ok, nm, L⟩ (.nd .vr i) (.mk { data := #[] } i [])) (hp : varsM t [] <+: L) (hsz : 1000 * sz t ≤ 1000000000) :
    Calls Tryz.prog 81 #[v, .func (.func K) #[] caps] w fun e w' => e = .returned (.string (shT F t)) ∧ SX w' ad σ ∧ Kt ad nm w w' := by
  have HL : Hid _ := lay_any w v ad σ r t K caps F ok nm L hs hv hd hok0 hokk hnm short hvar hp hsz
  clear hs hd hok0 hokk hvar hp
  obtain ⟨T, u, rfl⟩ := hv.iface
  go_enter Tryz.func81, Tryz.ntmps81
  go_wp2_with fail
  refine Calls.mono HL.out ?_
  rintro e w1 ⟨b, pm, sp, es, rfl, hT, hdx, hk1⟩
  have HW : Hid _ := written_any hT.tl
  rw [hdx] at HW
  have HT : Hid _ := hT
  clear HL hT hdx
  go_wp2_with fail
  refine Calls.mono HW.out ?_
  rintro e w2 ⟨rfl, hk2⟩
  have hkk := Kept.below' hk2
  go_wp2
  go_ret
  exact ⟨rfl, HT.out.st.keep (fun _ _ _ ho => hkk.blk ho), hk1.trans (Kt.of_kept hkk)⟩
end Go.Proofs.YtleenphlgbklmaaGreatDoor

namespace Go.Proofs.YtleenphlgbklmaaGreatDoor
open Go.RowKit
theorem VM.vblk {w : World} {mb : Nat} {names : List ByteArray} {vb : List Nat} (h : VM w mb names vb) : ∀ c, c ∈ vb → VBlk w c := by
  intro c hc
  obtain ⟨j, hj, rfl⟩ := List.getElem_of_mem hc
  have := h.vr j (h.len ▸ hj)
  have e : vb.getD j 0 = vb[j] := by simp [List.getD, hj]
  rw [e] at this
  exact ⟨_, this⟩
/-- the variables' blocks, with their names. -/
def NB (w : World) (vb : List Nat) (names : List ByteArray) : Prop := vb.length = names.length ∧ ∀ j, j < names.length → w.heap[vb.getD j 0]? = some (.cells #[.nilIface, .string (names.getD j { data := #[] }), .bool false] 221 (0, 0))
theorem VM.nodup {w : World} {mb : Nat} {names : List ByteArray} {vb : List Nat} (h : VM w mb names vb) (hn : names.Nodup) : vb.Nodup := by
  refine List.pairwise_iff_getElem.2 ?_
  intro i j hi hj hij e
  have h1 := h.vr i (h.len ▸ hi)
  have h2 := h.vr j (h.len ▸ hj)
  have e1 : vb.getD i 0 = vb[i] := by simp [List.getD, hi]
  have e2 : vb.getD j 0 = vb[j] := by simp [List.getD, hj]
  rw [e1, e] at h1
  have hi' : i < names.length := h.len ▸ hi
  have hj' : j < names.length := h.len ▸ hj
  have g1 : names.getD i { data := #[] } = names[i] := by simp [List.getD, hi']
  have g2 : names.getD j { data := #[] } = names[j] := by simp [List.getD, hj']
  rw [e2] at h2
  rw [h2, g1, g2] at h1
  simp at h1
  exact (List.pairwise_iff_getElem.1 hn) i j hi' hj' hij h1.symm
end Go.Proofs.YtleenphlgbklmaaGreatDoor

namespace Go.Proofs.YtleenphlgbklmaaGreatDoor
open Go.RowKit

set_option maxRecDepth 20000 in
set_option maxHeartbeats 1000000 in
theorem pnum_old (w : World) (nb mb b : Nat) (l : List Nat) (hc0 : w.cell? ⟨nb, 0, none⟩ = some (.map (some mb))) (h : NM w mb l) (hb : VBk w b) (j : Nat) (hj : l.findIdx? (fun x => b == x) = some j) (hlt : j < 260) :
    Calls Tryz.prog 113 #[.pointer (some ⟨b, 0, none⟩), .pointer (some ⟨nb, 0, none⟩)] w fun e w' => e = .returned (.string (letM j)) ∧ w' = w := by
  have hl := run_nlook w mb b l h hb
  rw [hj] at hl
  simp only at hl
  have HN : Hid _ := pnbn_small j hlt w
  clear h hj hb
  go_enter Tryz.func113, Tryz.ntmps113
  go_wp2_with (go_at_call 114; refine Calls.mono HN.out ?_; rintro e w' ⟨rfl, hww⟩; rw [hww]; clear hww w')
  go_ret
  exact ⟨rfl, rfl⟩
theorem NM.put {w : World} {mb b : Nat} {l : List Nat} (h : NM w mb l) (hb : VBk w b) : NM (mapSet w mb (.map (nFrom (l ++ [b]) 0).toArray (l.length + 1))) mb (l ++ [b]) := by
  have ho : ∀ c, VBk w c → VBk (mapSet w mb (.map (nFrom (l ++ [b]) 0).toArray (l.length + 1))) c := fun c ⟨s, hc⟩ => ⟨s, by
    rw [mapSet_other _ _ _ _ (fun z => by rw [z, h.mp] at hc; cases hc)]
    exact hc⟩
  refine ⟨?_, ?_⟩
  · rw [mapSet_same _ _ _ (lt_of_block h.mp)]
    simp
  · intro c hc
    simp at hc
    rcases hc with hc | rfl
    · exact ho c (h.vr c hc)
    · exact ho c hb
set_option maxRecDepth 20000 in
set_option maxHeartbeats 1000000 in
theorem pnum_new (w : World) (nb mb b : Nat) (l : List Nat) (hc0 : w.cell? ⟨nb, 0, none⟩ = some (.map (some mb))) (h : NM w mb l) (hb : VBk w b) (hj : l.findIdx? (fun x => b == x) = none) (hlt : l.length < 260) :
    Calls Tryz.prog 113 #[.pointer (some ⟨b, 0, none⟩), .pointer (some ⟨nb, 0, none⟩)] w fun e w' => e = .returned (.string (letM l.length)) ∧ NM w' mb (l ++ [b]) ∧ Kp (· = mb) w w' := by
  have hl := run_nlook w mb b l h hb
  rw [hj] at hl
  simp only at hl
  have hu := run_nput w mb b l h hb hj
  have hm := h.mp
  have hn : (nFrom l 0).toArray.size = l.length := by simp [nFrom_length]
  have hlen : (Builtin.len_ #[215] 3 #[.map (some mb)]).run Tryz.prog w = .ok (.int .i64 (l.length : Int)) w := by
    simp [Builtin.len_, run_underlying Tryz.underlying215, MapKept.run_getObj_map hm, Result.andThen, nFrom_length, goInt]
  have HP : Hid _ := h.put hb
  have HK : Hid _ := mapSet_kp w mb (.map (nFrom (l ++ [b]) 0).toArray (l.length + 1))
  have HN : Hid _ := pnbn_small l.length hlt (mapSet w mb (.map (nFrom (l ++ [b]) 0).toArray (l.length + 1)))
  clear h hj hb hm hn
  go_enter Tryz.func113, Tryz.ntmps113
  go_wp2_with (go_at_call 114; refine Calls.mono HN.out ?_; rintro e w' ⟨rfl, hww⟩; rw [hww]; clear hww w')
  go_ret
  exact ⟨rfl, HP.out, HK.out⟩
end Go.Proofs.YtleenphlgbklmaaGreatDoor

namespace Go.Proofs.YtleenphlgbklmaaGreatDoor
open Go.RowKit
theorem Tryz.mkN (w : World) : (Instr.makeMap 215 none).run Tryz.prog w = .ok (.map (some w.heap.size)) (w.alloc (.map #[] 0)) := by kernel_rfl
set_option maxRecDepth 20000 in
theorem pnio_any (w : World) : Calls Tryz.prog 82 #[] w fun e w' => ∃ nb mb, e = .returned (.func (.func 113) #[] #[.pointer (some ⟨nb, 0, none⟩)]) ∧ w'.heap[nb]? = some (.cells #[.map (some mb)] 215 (0, 0)) ∧ NM w' mb [] ∧ Kp (fun _ => False) w w' ∧ w.heap.size ≤ mb := by
  have m1 := Tryz.mkN w
  go_enter Tryz.func82, Tryz.ntmps82
  go_wp2
  go_ret
  have hk1 : Kp (fun _ => False) (w.alloc (.map #[] 0)) ((w.alloc (.map #[] 0)).alloc (.cells #[.map (some w.heap.size)] 215)) := (Kp.refl _ _).alloc _
  refine ⟨w.heap.size + 1, w.heap.size, rfl, ?_, ⟨hk1.blk (heap_alloc_new _ _) (fun z => z), by simp⟩, ((Kp.refl _ w).alloc _).trans hk1, Nat.le_refl _⟩
  have := heap_alloc_new (w.alloc (.map #[] 0)) (.cells #[.map (some w.heap.size)] 215)
  simpa using this
end Go.Proofs.YtleenphlgbklmaaGreatDoor
