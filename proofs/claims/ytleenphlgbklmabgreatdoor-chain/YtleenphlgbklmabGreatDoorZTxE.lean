import Derived.Test.YtleenphlgbklmabGreatDoorZTxV
import Derived.Test.YtleenphlgbklmabGreatDoorZWCanon
import Derived.Test.YtleenphlgbklmabGreatDoorZPEq
set_option linter.unusedVariables false
set_option linter.unusedSimpArgs false
namespace Go.Proofs.YtleenphlgbklmabGreatDoor
open Go.RowKit
set_option maxRecDepth 20000 in
set_option maxHeartbeats 1000000 in
theorem again_any {w : World} {B b pm : Nat} {fv : Value} {sp : List Sp} (h : TL w B b pm fv sp) (hBw : B ≤ w.heap.size) (hpm : pm < w.heap.size) (hbp : pm ≠ b) (f t : Nat) (hft : f ≤ t) (htl : t ≤ (decS sp).size) (hn : (decS sp).size + (t - f) ≤ 2147483647) (hl : sp.length + 1 ≤ 1000000000) :
    Calls Tryz.prog 125 #[.pointer (some ⟨b, 0, none⟩), .agg #[.int .i64 f, .int .i64 t]] w fun e w' => e = .returned (.tuple #[]) ∧ TL w' B b pm fv (sp ++ [.cp f t]) ∧ Kq (ST B) w w' ∧ w'.heap[pm]? = w.heap[pm]? := by
  obtain ⟨sv, hb, ho, hn1, hn2⟩ := h.cs
  obtain ⟨i0, hi, hij⟩ := Option.map_eq_some_iff.1 Tryz.infoStep
  obtain ⟨hz0, hz1, hz2⟩ : i0.zero = some (.agg #[.string { data := #[] }, .int .i64 0, .int .i64 0]) ∧ i0.size = 3 ∧ i0.bytes = 32 := by
    have := hij
    simp only [Prod.mk.injEq] at this
    exact this
  have c1 : w.cell? ⟨b, 1, none⟩ = some sv := by simp [World.cell?, hb]
  have hbl := lt_of_block hb
  have hg : ∀ k, sv.ownBlock = some k → B ≤ k ∧ k < w.heap.size := fun k hk => ho.lt k hk
  have HL : Hid (∀ (w4 : World) (u : Value), w4.heap[b]? = some (.cells #[fv, u, .int .i64 (decS sp).size, .map (some pm)] 196 (0, 0)) → Calls Tryz.prog 156 #[.pointer (some ⟨b, 0, none⟩), .int .i64 ((t : Int) - (f : Int))] w4 fun e w' => e = .returned (.tuple #[]) ∧ w'.heap[b]? = some (.cells #[fv, u, .int .i64 (((decS sp).size + (t - f) : Nat) : Int), .map (some pm)] 196 (0, 0)) ∧ Kq (· = b) w4 w') := fun w4 u h4 => by
    have e : ((t : Int) - (f : Int)) = ((t - f : Nat) : Int) := by omega
    rw [e]
    exact lengthen_any w4 b _ _ fv u _ h4 hn
  have H : Hid (TL w B b pm fv sp) := h
  have HN : Hid (sv.ownBlock ≠ some b ∧ sv.ownBlock ≠ some pm) := ⟨hn1, hn2⟩
  have HG : Hid _ := hg
  have HB : Hid _ := h.hB
  clear h hn1 hn2 hg hij
  have hpl : (w.alloc (.cells #[.int .i64 f, .int .i64 t] 200)).heap.size = w.heap.size + 1 := by simp
  have hbd : (w.alloc (.cells #[.int .i64 f, .int .i64 t] 200)).heap[b]? = some (.cells #[fv, sv, .int .i64 (decS sp).size, .map (some pm)] 196 (0, 0)) := (Below.heap_alloc _ _ _ hbl).trans hb
  have hod : (w.alloc (.cells #[.int .i64 f, .int .i64 t] 200)).ownsRow B 202 3 sv sp.length (spCells sp) := ho.alloc _
  have hpb : (w.alloc (.cells #[.int .i64 f, .int .i64 t] 200)).heap[w.heap.size]? = some (.cells #[.int .i64 f, .int .i64 t] 200 (0, 0)) := heap_alloc_new _ _
  have HGD : Hid (∀ k, sv.ownBlock = some k → B ≤ k ∧ k < w.heap.size) := HG
  have HKP : Hid ((w.alloc (.cells #[.int .i64 f, .int .i64 t] 200)).heap[pm]? = w.heap[pm]?) := Below.heap_alloc _ _ _ hpm
  have HKD : Hid (Kq (ST B) w (w.alloc (.cells #[.int .i64 f, .int .i64 t] 200))) := Kq.of_kept (Kept.alloc _ _)
  clear c1 ho HG hb
  go_enter Tryz.func125, Tryz.ntmps125
  go_wp2_with fail
  generalize hwd : w.alloc (.cells #[.int .i64 f, .int .i64 t] 200) = wd at *
  have c1 : wd.cell? ⟨b, 1, none⟩ = some sv := by simp [World.cell?, hbd]
  have hp0 : wd.cell? ⟨w.heap.size, 0, none⟩ = some (.int .i64 f) := by simp [World.cell?, hpb]
  have hp1 : wd.cell? ⟨w.heap.size, 1, none⟩ = some (.int .i64 t) := by simp [World.cell?, hpb]
  have HNW : Hid ((wd.drew.alloc (.cells #[.string { data := #[] }, .int .i64 f, .int .i64 t] 202)).heap[w.heap.size + 1]? = some (.cells #[.string { data := #[] }, .int .i64 f, .int .i64 t] 202 (0, 0))) := by
    show _ = _
    rw [← hpl]
    exact heap_alloc_new _ _
  have hown : wd.drew.ownsRow B 202 3 sv sp.length (spCells sp) := hod
  have HNC : Hid (∀ (q : Nat) (u : Value), [Value.string { data := #[] }, .int .i64 f, .int .i64 t][q]? = some u → (wd.drew.alloc (.cells #[.string { data := #[] }, .int .i64 f, .int .i64 t] 202)).cell? ((⟨w.heap.size + 1, 0, none⟩ : Addr).add q) = some u) := fun q u hq => by
    have hnw := HNW.out
    generalize wd.drew.alloc (.cells #[.string { data := #[] }, .int .i64 f, .int .i64 t] 202) = wx at *
    match q, hq with
    | 0, hq => simp at hq; subst hq; simp [Addr.add, World.cell?, hnw]
    | 1, hq => simp at hq; subst hq; simp [Addr.add, World.cell?, hnw]
    | 2, hq => simp at hq; subst hq; simp [Addr.add, World.cell?, hnw]
  have HX : Hid (∀ w3 : World, (wd.drew.alloc (.cells #[.string { data := #[] }, .int .i64 f, .int .i64 t] 202)).grownBy w3 sv.ownBlock → w3.heap[b]? = some (.cells #[fv, sv, .int .i64 (decS sp).size, .map (some pm)] 196 (0, 0)) ∧ w3.heap[w.heap.size]? = some (.cells #[.int .i64 f, .int .i64 t] 200 (0, 0)) ∧ w3.cell? ⟨b, 1, none⟩ = some sv ∧ w3.frozen? ⟨b, 1, none⟩ = false) := fun w3 hgrow3 => by
    have hb3 : w3.heap[b]? = some (.cells #[fv, sv, .int .i64 (decS sp).size, .map (some pm)] 196 (0, 0)) := by
      rw [hgrow3.block b (by simp; omega) (fun e => HN.out.1 e.symm), Below.heap_alloc _ _ _ (by show b < wd.heap.size; omega)]
      exact hbd
    refine ⟨hb3, ?_, by simp [World.cell?, hb3], by simp [World.frozen?, hb3]⟩
    rw [hgrow3.block w.heap.size (by simp; omega) (fun e => by have := HGD.out _ e.symm; omega), Below.heap_alloc _ _ _ (by show w.heap.size < wd.heap.size; omega)]
    exact hpb
  go_region_law (first
    | (refine step_append_own2 (by rfl) (.tmp 8) (.tmp 11) 194 (by rfl) B 202 i0 (.agg #[.string { data := #[] }, .int .i64 0, .int .i64 0]) 3 32 Tryz.underlying194 hi hz0 hz1 hz2 rfl (by decide) _ _ _ (by rfl) (hown.alloc _) ⟨w.heap.size + 1, 0, none⟩ 1 1 [.string { data := #[] }, .int .i64 f, .int .i64 t] (by rfl) rfl (fun q u hq => HNC.out q u hq) (fun u hu => by simp at hu; rcases hu with rfl | rfl | rfl <;> rfl) (by unfold maxLen; omega) (by omega) (by simp; omega) (by decide) ?_; intro g cap w3 hown3 hgrow3 hfr3; obtain ⟨hb3, hp3, x1, x2⟩ := HX.out w3 hgrow3))
  all_goals
    have hgb : g ≠ b ∧ g ≠ pm ∧ B ≤ g := by
      rcases hfr3 with e | e
      · exact ⟨fun z => HN.out.1 (by rw [← e, z]), fun z => HN.out.2 (by rw [← e, z]), (HGD.out g e.symm).1⟩
      · (try simp at e)
        exact ⟨by omega, by omega, by omega⟩
    have hb4 : (w3.setCell ⟨b, 1, none⟩ (.slice (some ⟨g, 0, none⟩) (sp.length + 1) cap)).heap[b]? = some (.cells #[fv, .slice (some ⟨g, 0, none⟩) (sp.length + 1) cap, .int .i64 (decS sp).size, .map (some pm)] 196 (0, 0)) := by
      simp [World.setCell, hb3, Array.getElem?_modify]
    have HL4 : Hid _ := HL.out _ _ hb4
    have hsz3 := hgrow3.size
    have hpm4 : (w3.setCell ⟨b, 1, none⟩ (.slice (some ⟨g, 0, none⟩) (sp.length + 1) cap)).heap[pm]? = w.heap[pm]? := by
      rw [Below.heap_setCell _ _ _ _ hbp, hgrow3.block pm (by simp; omega) (fun e => HN.out.2 e.symm)]
      exact (Below.heap_alloc wd.drew _ _ (by show pm < wd.heap.size; omega)).trans (HKP.out)
    have HPM : Hid (pm < w3.heap.size ∧ (w3.setCell ⟨b, 1, none⟩ (.slice (some ⟨g, 0, none⟩) (sp.length + 1) cap)).heap[pm]? = w.heap[pm]?) := ⟨by simp at hsz3; omega, hpm4⟩
    have hk3 : Kq (ST B) w w3 := HKD.out.trans ⟨hgrow3.os, hgrow3.output, by simp at hsz3; omega, fun k hk hn => by
      rw [hgrow3.block k (by simp; omega) (fun e => hn (HGD.out k e.symm).1)]
      exact Below.heap_alloc wd.drew _ _ hk⟩
    have hk4 : Kq (ST B) w3 (w3.setCell ⟨b, 1, none⟩ (.slice (some ⟨g, 0, none⟩) (sp.length + 1) cap)) := ⟨rfl, rfl, by simp, fun k hk hn => Below.heap_setCell _ _ _ _ (fun e => hn (by show B ≤ k; rw [show k = b from e]; exact HB.out))⟩
    have ho4 : (w3.setCell ⟨b, 1, none⟩ (.slice (some ⟨g, 0, none⟩) (sp.length + 1) cap)).ownsRow B 202 3 (.slice (some ⟨g, 0, none⟩) (sp.length + 1) cap) (sp.length + 1) (spCells sp ++ [.string { data := #[] }, .int .i64 f, .int .i64 t]) := ownsRow_same hown3 (fun k hk => by
      have : k = g := by simpa [Value.ownBlock] using hk.symm
      subst this
      exact Below.heap_setCell _ _ _ _ hgb.1)
    have HO4 : Hid _ := ho4
    have q0 : (w3.setCell ⟨b, 1, none⟩ (.slice (some ⟨g, 0, none⟩) (sp.length + 1) cap)).cell? ⟨w.heap.size, 0, none⟩ = some (.int .i64 f) := by
      rw [World.cell?_setCell_other _ _ _ _ (fun e => by injection e with e1; omega)]
      simp [World.cell?, hp3]
    have q1 : (w3.setCell ⟨b, 1, none⟩ (.slice (some ⟨g, 0, none⟩) (sp.length + 1) cap)).cell? ⟨w.heap.size, 1, none⟩ = some (.int .i64 t) := by
      rw [World.cell?_setCell_other _ _ _ _ (fun e => by injection e with e1; omega)]
      simp [World.cell?, hp3]
    have hs34 : (w3.setCell ⟨b, 1, none⟩ (.slice (some ⟨g, 0, none⟩) (sp.length + 1) cap)).heap.size = w3.heap.size := by simp
    generalize hw4 : w3.setCell ⟨b, 1, none⟩ (.slice (some ⟨g, 0, none⟩) (sp.length + 1) cap) = w4 at *
    clear HL hown3 hgrow3 hfr3 hb3 hp3 ho4 x1 x2 hpm4
    go_wp2_with (go_at_call 156; refine Calls.mono HL4.out ?_; rintro e w5 ⟨rfl, hb5, hk5⟩)
    go_end0
    have hbe : (decS (sp ++ [.cp f t])).size = (decS sp).size + (t - f) := by rw [decS_snoc]; simp [Sp.put]; omega
    refine ⟨rfl, H.out.put (.cp f t) ⟨hft, htl⟩ HB.out _ (by rw [hbe]; exact hb5) (ownsRow_same HO4.out (fun k hk => ?_)) ⟨?_, ?_⟩ ⟨by rw [hbe]; exact hn, hl⟩, (hk3.trans hk4).trans ⟨hk5.os, hk5.output, hk5.size, fun k hk hq => hk5.block k hk (fun e => hq (by show B ≤ k; rw [show k = b from e]; exact HB.out))⟩, (hk5.block pm (by have := HPM.out.1; omega) hbp).trans HPM.out.2⟩
    · have : k = g := by simpa [Value.ownBlock] using hk.symm
      subst this
      exact hk5.block k (World.ownsRow.lt HO4.out k (by simp [Value.ownBlock])).2 hgb.1
    · simpa [Value.ownBlock] using hgb.1
    · simpa [Value.ownBlock] using hgb.2.1
end Go.Proofs.YtleenphlgbklmabGreatDoor

namespace Go.Proofs.YtleenphlgbklmabGreatDoor
open Go.RowKit

theorem varsM_pre {m : Nat} {t : Ty} (h : WT m t) : ∀ l, l <+: varsM t l := by
  induction h with
  | var n hn => intro l; rw [varsM_leaf]; split; exact List.prefix_refl _; exact List.prefix_append _ _
  | int => intro l; rw [varsM_int]; exact List.prefix_refl _
  | bool => intro l; rw [varsM_bool]; exact List.prefix_refl _
  | list a _ ih => intro l; rw [varsM_list]; exact ih l
  | pair a b _ _ ih ih2 => intro l; rw [varsM_pair]; exact (ih l).trans (ih2 _)
  | fn a b _ _ ih ih2 => intro l; rw [varsM_fn]; exact (ih l).trans (ih2 _)
theorem varsM_nodup {m : Nat} {t : Ty} (h : WT m t) : ∀ l, l.Nodup → (varsM t l).Nodup := by
  induction h with
  | var n hn =>
    intro l hl
    rw [varsM_leaf]
    split
    · exact hl
    · rename_i e
      refine List.nodup_append.2 ⟨hl, by simp, ?_⟩
      intro a ha b hb
      simp at hb
      subst hb
      intro q
      subst q
      exact e (List.contains_iff_mem.2 ha)
  | int => intro l hl; rw [varsM_int]; exact hl
  | bool => intro l hl; rw [varsM_bool]; exact hl
  | list a _ ih => intro l hl; rw [varsM_list]; exact ih l hl
  | pair a b _ _ ih ih2 => intro l hl; rw [varsM_pair]; exact ih2 _ (ih l hl)
  | fn a b _ _ ih ih2 => intro l hl; rw [varsM_fn]; exact ih2 _ (ih l hl)
theorem cnA_get (ns : List Nat) (m : Nat) (hd : ns.Nodup) (hlt : ∀ x, x ∈ ns → x < m) : ∀ q, q ≤ ns.length → ∀ j, j < q → (cnA ns m q).getD (ns.getD j 0) { data := #[] } = letM j := by
  intro q
  induction q with
  | zero => intro _ j hj; omega
  | succ q ih =>
    intro hq j hj
    have gq : ns.getD q 0 = ns[q] := by simp [List.getD, show q < ns.length by omega]
    have gj : ns.getD j 0 = ns[j] := by simp [List.getD, show j < ns.length by omega]
    by_cases e : j = q
    · subst e
      have : ns.getD j 0 < (cnA ns m j).length := by rw [cnA_len, gj]; exact hlt _ (List.getElem_mem _)
      simp [cnA, List.getD, List.getElem?_set] at this ⊢
      simp [this]
    · have hne : ns.getD q 0 ≠ ns.getD j 0 := by
        rw [gq, gj]
        intro z
        exact (List.pairwise_iff_getElem.1 hd) j q (by omega) (by omega) (by omega) z.symm
      have hi := ih (by omega) j (by omega)
      rw [← hi]
      simp only [cnA]
      generalize ns.getD q 0 = x at *
      generalize ns.getD j 0 = y at *
      simp only [List.getD]
      rw [List.getElem?_set_ne hne]
end Go.Proofs.YtleenphlgbklmabGreatDoor

namespace Go.Proofs.YtleenphlgbklmabGreatDoor
open Go.RowKit

/-- the type that a node is, as a tree; variables by their place in the store. -/
inductive Dn (σ : St) : TR → Ty → Prop
  | int (r : TR) : Rp σ r .int → Dn σ r (.mk { data := #[105, 110, 116] } 0 [])
  | bool (r : TR) : Rp σ r .bool → Dn σ r (.mk { data := #[98, 111, 111, 108] } 0 [])
  | var (r : TR) (i : Nat) : Rp σ r (.nd .vr i) → Dn σ r (.mk { data := #[] } i [])
  | list (r : TR) (i : Nat) (x : TR) (a : Ty) : Rp σ r (.nd .ls i) → σ[i]? = some ⟨.ls x, none⟩ → Dn σ x a → Dn σ r (.mk { data := #[108, 105, 115, 116] } 0 [a])
  | pair (r : TR) (i : Nat) (x y : TR) (a c : Ty) : Rp σ r (.nd .pr i) → σ[i]? = some ⟨.pr x y, none⟩ → Dn σ x a → Dn σ y c → Dn σ r (.mk { data := #[112, 97, 105, 114] } 0 [a, c])
  | fn (r : TR) (i : Nat) (x y : TR) (a c : Ty) : Rp σ r (.nd .ar i) → σ[i]? = some ⟨.ar x y, none⟩ → Dn σ x a → Dn σ y c → Dn σ r (.mk { data := #[102, 117, 110] } 0 [a, c])
theorem Dn.det {σ : St} {r : TR} {t : Ty} (h : Dn σ r t) : ∀ {u : Ty}, Dn σ r u → t = u := by
  induction h with
  | int r h => intro u g; cases g with
    | int _ g => rfl
    | bool _ g => cases h.det g
    | var _ i g => cases h.det g
    | list _ i x a g _ _ => cases h.det g
    | pair _ i x y a c g _ _ _ => cases h.det g
    | fn _ i x y a c g _ _ _ => cases h.det g
  | bool r h => intro u g; cases g with
    | int _ g => cases h.det g
    | bool _ g => rfl
    | var _ i g => cases h.det g
    | list _ i x a g _ _ => cases h.det g
    | pair _ i x y a c g _ _ _ => cases h.det g
    | fn _ i x y a c g _ _ _ => cases h.det g
  | var r j h => intro u g; cases g with
    | int _ g => cases h.det g
    | bool _ g => cases h.det g
    | var _ i g =>
      have := h.det g
      simp only [TR.nd.injEq, true_and] at this
      rw [this]
    | list _ i x a g _ _ => cases h.det g
    | pair _ i x y a c g _ _ _ => cases h.det g
    | fn _ i x y a c g _ _ _ => cases h.det g
  | list r j x a h h1 h2 ih => intro u g; cases g with
    | int _ g => cases h.det g
    | bool _ g => cases h.det g
    | var _ i g => cases h.det g
    | list _ i x' a' g g1 g2 =>
      have := h.det g
      simp only [TR.nd.injEq, true_and] at this
      rw [← this, h1] at g1
      simp at g1
      rw [← g1] at g2
      rw [ih g2]
    | pair _ i x y a c g _ _ _ => cases h.det g
    | fn _ i x y a c g _ _ _ => cases h.det g
  | pair r j x y a c h h1 h2 h3 ih ih2 => intro u g; cases g with
    | int _ g => cases h.det g
    | bool _ g => cases h.det g
    | var _ i g => cases h.det g
    | list _ i x a g _ _ => cases h.det g
    | pair _ i x' y' a' c' g g1 g2 g3 =>
      have := h.det g
      simp only [TR.nd.injEq, true_and] at this
      rw [← this, h1] at g1
      simp at g1
      rw [← g1.1] at g2
      rw [← g1.2] at g3
      rw [ih g2, ih2 g3]
    | fn _ i x y a c g _ _ _ => cases h.det g
  | fn r j x y a c h h1 h2 h3 ih ih2 => intro u g; cases g with
    | int _ g => cases h.det g
    | bool _ g => cases h.det g
    | var _ i g => cases h.det g
    | list _ i x a g _ _ => cases h.det g
    | pair _ i x y a c g _ _ _ => cases h.det g
    | fn _ i x' y' a' c' g g1 g2 g3 =>
      have := h.det g
      simp only [TR.nd.injEq, true_and] at this
      rw [← this, h1] at g1
      simp at g1
      rw [← g1.1] at g2
      rw [← g1.2] at g3
      rw [ih g2, ih2 g3]
theorem Dn.wt {σ : St} {r : TR} {t : Ty} (h : Dn σ r t) : WT σ.length t := by
  induction h with
  | int r h => exact .int
  | bool r h => exact .bool
  | var r i h =>
    obtain ⟨nk, _, h⟩ := h.rt
    exact .var i (List.getElem?_eq_some_iff.1 h).1
  | list r i x a _ _ _ ih => exact .list a ih
  | pair r i x y a c _ _ _ _ ih ih2 => exact .pair a c ih ih2
  | fn r i x y a c _ _ _ _ ih ih2 => exact .fn a c ih ih2
/-- the program's store is that one, but for how long the ways are. -/
def SX (w : World) (ad : List Nat) (σ : St) : Prop := ∃ τ, SW w ad τ ∧ Ev σ τ
theorem SX.keep {w w' : World} {ad : List Nat} {σ : St} (h : SX w ad σ) (hk : ∀ b o, b ∈ ad → w.heap[b]? = some o → w'.heap[b]? = some o) : SX w' ad σ := by
  obtain ⟨τ, h1, h2⟩ := h
  exact ⟨τ, h1.keep hk, h2⟩
theorem known_se {ad : List Nat} {σ : St} {r r0 : TR} (h : Rp σ r r0) (w : World) (v : Value) (hs : SX w ad σ) (hv : RV ad r v) :
    Calls Tryz.prog 124 #[v] w fun e w' => ∃ v0, e = .returned v0 ∧ RV ad r0 v0 ∧ SX w' ad σ ∧ Kt ad (fun _ => False) w w' := by
  obtain ⟨τ, h1, h2⟩ := hs
  refine (known_sw ad (h2.rp _ _ h) w v h1 hv).mono ?_
  rintro e w' ⟨v0, τ', rfl, h3, h4, h5, h6⟩
  exact ⟨v0, rfl, h3, ⟨τ', h4, h2.trans h5⟩, h6⟩
def pvE (es : List (TR × Nat × Nat)) : List (TR × Value) := es.map fun e => (e.1, .agg #[.int .i64 e.2.1, .int .i64 e.2.2])
/-- the writer: the text so far, the pieces of it, the variables come to. -/
structure TX (w : World) (ad : List Nat) (σ : St) (B b pm : Nat) (fv : Value) (F : List ByteArray) (ok : World → List Nat → Prop) (l : List Nat) (sp : List Sp) (es : List (TR × Nat × Nat)) : Prop where
  tl : TL w B b pm fv sp
  mp : TMp w pm ad (pvE es)
  st : SX w ad σ
  ns : ok w l
  bs : B ≤ w.heap.size
  pB : B ≤ pm
  adB : ∀ a, a ∈ ad → a < B
  pcs : ∀ e, e ∈ es → ∃ T, Dn σ e.1 T ∧ e.2.1 ≤ e.2.2 ∧ e.2.2 ≤ (decS sp).size ∧ (decS sp).extract e.2.1 e.2.2 = shT F T ∧ varsM T l = l
/-- where the writer's memory may change. -/
def SN (B : Nat) (nm : Nat → Prop) (q : Nat) : Prop := B ≤ q ∨ nm q
/-- what a way to write variables is good for: what it keeps lies ahead of the writer. -/
def OkK (ad : List Nat) (B : Nat) (ok : World → List Nat → Prop) : Prop := ∀ w w' l, ok w l → Kt ad (ST B) w w' → ok w' l
theorem extract_app (a b : ByteArray) (f t : Nat) (h : t ≤ a.size) : (a ++ b).extract f t = a.extract f t := by
  apply ByteArray.ext
  simp only [ByteArray.data_extract, ByteArray.data_append, Array.extract_append]
  have : a.data.size = a.size := rfl
  rw [show t - a.data.size = 0 by omega]
  simp
theorem TL.kt {w w' : World} {ad : List Nat} {B b pm : Nat} {fv : Value} {sp : List Sp} {S : Nat → Prop} (h : TL w B b pm fv sp) (k : Kt ad S w w') (hS : ∀ q, S q → q < B) : TL w' B b pm fv sp := by
  obtain ⟨hB, ⟨sv, h1, h2, h3, h4⟩, h5, h6⟩ := h
  refine ⟨hB, ⟨sv, k.blk _ _ h1 (fun z => by have := hS _ z; omega) ?_, ?_, h3, h4⟩, h5, h6⟩
  · rintro ⟨cs, e, f, he, ht⟩
    simp only [Obj.cells.injEq] at he
    obtain ⟨_, rfl, _⟩ := he
    rcases ht with e | e | e | e <;> cases e
  · refine ⟨h2.1, ?_⟩
    rcases h2.2 with q | ⟨g, cap, cur, rfl, hgB, hg, hr⟩
    · exact .inl q
    · refine .inr ⟨g, cap, cur, rfl, hgB, k.blk _ _ hg (fun z => by have := hS _ z; omega) ?_, hr⟩
      rintro ⟨cs, e, f, he, ht⟩
      simp only [Obj.cells.injEq] at he
      obtain ⟨_, rfl, _⟩ := he
      rcases ht with e | e | e | e <;> cases e
theorem TMp.kt {w w' : World} {mb : Nat} {ad : List Nat} {l : List (TR × Value)} {S : Nat → Prop} (h : TMp w mb ad l) (k : Kt ad S w w') (hS : ¬ S mb) : TMp w' mb ad l :=
  ⟨k.blk _ _ h.mp hS (by rintro ⟨cs, e, f, he, _⟩; cases he), h.ok⟩
section
variable {w w' : World} {ad : List Nat} {σ : St} {B b pm : Nat} {fv : Value} {F : List ByteArray} {ok : World → List Nat → Prop} {l : List Nat} {sp : List Sp} {es : List (TR × Nat × Nat)}
/-- known was asked. -/
theorem TX.kn (h : TX w ad σ B b pm fv F ok l sp es) (hok : OkK ad B ok) (k : Kt ad (fun _ => False) w w') (hs : SX w' ad σ) : TX w' ad σ B b pm fv F ok l sp es :=
  ⟨h.tl.kt k (fun _ z => z.elim), h.mp.kt k id, hs, hok _ _ _ h.ns (k.mono (fun _ _ z => z.elim)), Nat.le_trans h.bs k.size, h.pB, h.adB, h.pcs⟩
theorem TX.kept (h : TX w ad σ B b pm fv F ok l sp es) (hok : OkK ad B ok) (k : Kept w w') : TX w' ad σ B b pm fv F ok l sp es :=
  h.kn hok (Kt.of_kept k) (h.st.keep (fun _ _ _ hb => k.blk hb))
/-- more of the text stands. -/
theorem TX.more (h : TX w ad σ B b pm fv F ok l sp es) (hok : OkK ad B ok) (k : Kq (ST B) w w') {s : Sp} (ht : TL w' B b pm fv (sp ++ [s])) (hm : w'.heap[pm]? = w.heap[pm]?) : TX w' ad σ B b pm fv F ok l (sp ++ [s]) es := by
  refine ⟨ht, ⟨hm.trans h.mp.mp, h.mp.ok⟩, h.st.keep (fun a o ha hb => (k.block a (lt_of_block hb) (fun z => ?_)).trans hb), hok _ _ _ h.ns (Kt.of_kq k), Nat.le_trans h.bs k.size, h.pB, h.adB, ?_⟩
  · have := h.adB a ha
    have z : B ≤ a := z
    omega
  · intro e he
    obtain ⟨T, h1, h2, h3, h4, h5⟩ := h.pcs e he
    have hp : ∃ x, decS (sp ++ [s]) = decS sp ++ x := by
      rw [decS_snoc]
      cases s with
      | tk t => exact ⟨_, rfl⟩
      | cp f t => exact ⟨_, rfl⟩
    obtain ⟨x, hx⟩ := hp
    refine ⟨T, h1, h2, by rw [hx, ByteArray.size_append]; omega, ?_, h5⟩
    rw [hx, extract_app _ _ _ _ h3]
    exact h4
end
end Go.Proofs.YtleenphlgbklmabGreatDoor

namespace Go.Proofs.YtleenphlgbklmabGreatDoor
open Go.RowKit

theorem shT_size2 (names : List ByteArray) (M : Nat) (hM : 4 ≤ M) (hn : ∀ n, (names.getD n { data := #[] }).size ≤ M) {m : Nat} {t : Ty} (h : WT m t) : (shT names t).size ≤ (M + 6) * sz t := by
  induction h with
  | var n hn2 =>
    rw [shT_var]
    have := hn n
    simp only [sz, szs]; omega
  | int => rw [shT_int]; have : ({ data := #[105, 110, 116] } : ByteArray).size = 3 := rfl; simp only [sz, szs]; omega
  | bool => rw [shT_bool]; have : ({ data := #[98, 111, 111, 108] } : ByteArray).size = 4 := rfl; simp only [sz, szs]; omega
  | list a _ ih =>
    rw [shT_list]
    simp only [ByteArray.size_append, sz, szs, Nat.mul_add]
    have h1 : ({ data := #[91] } : ByteArray).size = 1 := rfl
    have h2 : ({ data := #[93] } : ByteArray).size = 1 := rfl
    omega
  | pair a b _ _ ih ih2 =>
    rw [shT_pair]
    simp only [ByteArray.size_append, sz, szs, Nat.mul_add]
    have h1 : ({ data := #[40] } : ByteArray).size = 1 := rfl
    have h2 : ({ data := #[41] } : ByteArray).size = 1 := rfl
    have h3 : ({ data := #[44, 32] } : ByteArray).size = 2 := rfl
    omega
  | fn a b _ _ ih ih2 =>
    rw [shT_fn]
    generalize (a.kind.data.toList == ({ data := #[102, 117, 110] } : ByteArray).data.toList) = q
    simp only [ByteArray.size_append, sz, szs, Nat.mul_add]
    have h1 := brkT_size q (shT names a)
    have h2 : ({ data := #[32, 45, 62, 32] } : ByteArray).size = 4 := rfl
    omega
theorem varsM_idem {m : Nat} {t : Ty} (h : WT m t) : ∀ l l', varsM t l <+: l' → varsM t l' = l' := by
  induction h with
  | var n hn =>
    intro l l' hp
    have hm : n ∈ l' := by
      refine hp.subset ?_
      rw [varsM_leaf]
      split
      · rename_i e
        exact List.contains_iff_mem.1 e
      · simp
    rw [varsM_leaf]
    have : inB l' n = true := List.contains_iff_mem.2 hm
    rw [this]
    rfl
  | int => intro l l' hp; exact varsM_int l'
  | bool => intro l l' hp; exact varsM_bool l'
  | list a _ ih => intro l l' hp; rw [varsM_list] at hp ⊢; exact ih l l' hp
  | pair a b ha hb ih ih2 =>
    intro l l' hp
    rw [varsM_pair] at hp ⊢
    rw [ih l l' ((varsM_pre hb _).trans hp)]
    exact ih2 _ l' hp
  | fn a b ha hb ih ih2 =>
    intro l l' hp
    rw [varsM_fn] at hp ⊢
    rw [ih l l' ((varsM_pre hb _).trans hp)]
    exact ih2 _ l' hp
theorem extract_tail (a b : ByteArray) : (a ++ b).extract a.size (a ++ b).size = b := by
  apply ByteArray.ext
  apply Array.ext'
  rw [ByteArray.size_append, ByteArray.data_extract, ByteArray.data_append]
  have e1 : a.size = a.data.toList.length := by rw [Array.length_toList]; rfl
  have e2 : b.size = b.data.toList.length := by rw [Array.length_toList]; rfl
  have d1 : List.drop a.size a.data.toList = [] := List.drop_eq_nil_of_le (by omega)
  have d2 : List.take b.size b.data.toList = b.data.toList := List.take_of_length_le (by omega)
  simp [List.extract, List.drop_append, d1, d2]
theorem sz_pos (t : Ty) : 1 ≤ sz t := by cases t; simp [sz]
/-- what a writing goes by. -/
structure WE where
  ad : List Nat
  σ : St
  B : Nat
  b : Nat
  pm : Nat
  fv : Value
  F : List ByteArray
  ok : World → List Nat → Prop
  nm : Nat → Prop
  L : List Nat
def WE.TX (E : WE) (w : World) (l : List Nat) (sp : List Sp) (es : List (TR × Nat × Nat)) : Prop := Go.Proofs.YtleenphlgbklmabGreatDoor.TX w E.ad E.σ E.B E.b E.pm E.fv E.F E.ok l sp es
structure WE.Ok (E : WE) : Prop where
  okk : OkK E.ad E.B E.ok
  nmB : ∀ q, E.nm q → q < E.B
  short : ∀ n, (E.F.getD n { data := #[] }).size ≤ 900
def WPost (E : WE) (w w' : World) (t : Ty) (l : List Nat) (sp : List Sp) (es : List (TR × Nat × Nat)) (txt : ByteArray) (n k : Nat) : Prop :=
  ∃ sp' es', E.TX w' (varsM t l) sp' es' ∧ decS sp' = decS sp ++ txt ∧ (decS sp').size ≤ (decS sp).size + n ∧ sp'.length ≤ sp.length + n ∧ (∀ e, e ∈ es' → e ∈ es ∨ ∃ T, Dn E.σ e.1 T ∧ sz T ≤ k) ∧ Kt E.ad (SN E.B E.nm) w w'
def STyp (E : WE) (r : TR) (t : Ty) : Prop := ∀ (w : World) (v : Value) (l : List Nat) (sp : List Sp) (es : List (TR × Nat × Nat)), RV E.ad r v → E.TX w l sp es → varsM t l <+: E.L → (decS sp).size + 1000 * sz t ≤ 2147483647 → sp.length + 1000 * sz t ≤ 1000000000 →
  Calls Tryz.prog 83 #[.pointer (some ⟨E.b, 0, none⟩), v] w fun e w' => e = .returned (.tuple #[]) ∧ WPost E w w' t l sp es (shT E.F t) (1000 * sz t) (sz t)
def SFst (E : WE) (r : TR) (t : Ty) : Prop := ∀ (w : World) (v : Value) (l : List Nat) (sp : List Sp) (es : List (TR × Nat × Nat)), RV E.ad r v → E.TX w l sp es → varsM t l <+: E.L → (decS sp).size + 1000 * sz t ≤ 2147483647 → sp.length + 1000 * sz t ≤ 1000000000 →
  Calls Tryz.prog 126 #[.pointer (some ⟨E.b, 0, none⟩), v] w fun e w' => e = .returned (.tuple #[]) ∧ WPost E w w' t l sp es (shT E.F t) (1000 * sz t) (sz t - 1)
def SLef (E : WE) (r : TR) (t : Ty) : Prop := ∀ (w : World) (v : Value) (l : List Nat) (sp : List Sp) (es : List (TR × Nat × Nat)), RV E.ad r v → E.TX w l sp es → varsM t l <+: E.L → (decS sp).size + 1000 * sz t + 2 ≤ 2147483647 → sp.length + 1000 * sz t + 2 ≤ 1000000000 →
  Calls Tryz.prog 158 #[.pointer (some ⟨E.b, 0, none⟩), v] w fun e w' => e = .returned (.tuple #[]) ∧ WPost E w w' t l sp es (brkT (t.kind.data.toList == ({ data := #[102, 117, 110] } : ByteArray).data.toList) (shT E.F t)) (1000 * sz t + 2) (sz t)
theorem askT_some {r : TR} : ∀ {l : List (TR × Value)} {i j : Nat} {x : Value}, askT r l i = some (j, x) → (r, x) ∈ l := by
  intro l
  induction l with
  | nil => intro i j x h; cases h
  | cons e l ih =>
    intro i j x h
    simp only [askT] at h
    split at h
    · rename_i q
      rw [TR.eqb_iff] at q
      simp at h
      rw [q, ← h.2]
      simp
    · exact List.mem_cons_of_mem _ (ih h)
theorem askT_none {r : TR} : ∀ {l : List (TR × Value)} {i : Nat}, askT r l i = none ↔ ∀ e, e ∈ l → e.1 ≠ r := by
  intro l
  induction l with
  | nil => intro i; simp [askT]
  | cons e l ih =>
    intro i
    simp only [askT]
    constructor
    · intro h
      split at h
      · cases h
      · rename_i q
        intro x hx
        simp at hx
        rcases hx with rfl | hx
        · exact fun z => q (TR.eqb_iff.2 z.symm)
        · exact ih.1 h x hx
    · intro h
      have : r.eqb e.1 = false := TR.eqb_ff.2 (fun z => h e (by simp) z.symm)
      simp only [this, Bool.false_eq_true, if_false]
      exact ih.2 (fun x hx => h x (by simp [hx]))
theorem Tryz.zPiece (w : World) : (zeroValue 200).run Tryz.prog w = .ok (.agg #[.int .i64 0, .int .i64 0]) w := by kernel_rfl
theorem TX.piece {w : World} {ad : List Nat} {σ : St} {B b pm : Nat} {fv : Value} {F : List ByteArray} {ok : World → List Nat → Prop} {l : List Nat} {sp : List Sp} {es : List (TR × Nat × Nat)} (h : TX w ad σ B b pm fv F ok l sp es) (hok : OkK ad B ok) {r : TR} {v : Value} (hv : RV ad r v) {f : Nat} {t : Ty} (hd : Dn σ r t) (hf : f ≤ (decS sp).size) (he : (decS sp).extract f (decS sp).size = shT F t) (hl : varsM t l = l) (o : Obj) (ho : o = .map (tEnts ad (pvE es ++ [(r, .agg #[.int .i64 f, .int .i64 (decS sp).size])]) 0).toArray ((pvE es).length + 1)) :
    TX (mapSet w pm o) ad σ B b pm fv F ok l sp (es ++ [(r, f, (decS sp).size)]) := by
  have hm := h.mp.mp
  have hk : Kt ad (ST B) w (mapSet w pm o) := ⟨rfl, rfl, by simp [mapSet], fun q o' hq hn _ => by
    rw [mapSet_other _ _ _ _ (fun z => hn (by rw [z]; exact h.pB))]
    exact hq⟩
  have hbp : b ≠ pm := fun z => by
    obtain ⟨sv, h1, _⟩ := h.tl.cs
    rw [z, hm] at h1
    cases h1
  refine ⟨?_, ?_, ?_, hok _ _ _ h.ns hk, by simpa [mapSet] using h.bs, h.pB, h.adB, ?_⟩
  · obtain ⟨hB, ⟨sv, h1, h2, h3, h4⟩, h5, h6⟩ := h.tl
    refine ⟨hB, ⟨sv, by rw [mapSet_other _ _ _ _ hbp]; exact h1, ownsRow_same h2 (fun k hk => mapSet_other _ _ _ _ (fun z => h4 (by rw [hk, z]))), h3, h4⟩, h5, h6⟩
  · have := h.mp.put hv (.agg #[.int .i64 f, .int .i64 (decS sp).size])
    rw [ho]
    simpa [pvE] using this
  · obtain ⟨τ, h1, h2⟩ := h.st
    exact ⟨τ, h1.mapSet hm o, h2⟩
  · intro e hmem
    simp at hmem
    rcases hmem with hmem | rfl
    · exact h.pcs e hmem
    · exact ⟨t, hd, hf, Nat.le_refl _, he, hl⟩
theorem tl_ne {w : World} {ad : List Nat} {σ : St} {B b pm : Nat} {fv : Value} {F : List ByteArray} {ok : World → List Nat → Prop} {l : List Nat} {sp : List Sp} {es : List (TR × Nat × Nat)} (h : TX w ad σ B b pm fv F ok l sp es) : pm ≠ b := fun z => by
  obtain ⟨sv, h1, _⟩ := h.tl.cs
  have hm := h.mp.mp
  rw [z, h1] at hm
  cases hm
set_option maxRecDepth 20000 in
set_option maxHeartbeats 1000000 in
theorem typ_hit (E : WE) (hE : E.Ok) {r r0 : TR} {t : Ty} (hr : Rp E.σ r r0) (hd : Dn E.σ r0 t) (w : World) (v : Value) (l : List Nat) (sp : List Sp) (es : List (TR × Nat × Nat)) (hv : RV E.ad r v) (h : E.TX w l sp es) (hn : (decS sp).size + 1000 * sz t ≤ 2147483647) (hl : sp.length + 1000 * sz t ≤ 1000000000) {j : Nat} {x : Value} (ha : askT r0 (pvE es) 0 = some (j, x)) :
    Calls Tryz.prog 83 #[.pointer (some ⟨E.b, 0, none⟩), v] w fun e w' => e = .returned (.tuple #[]) ∧ WPost E w w' t l sp es (shT E.F t) (1000 * sz t) (sz t) := by
  obtain ⟨⟨q, f, u⟩, hmem, hq⟩ := List.mem_map.1 (askT_some ha)
  simp only [Prod.mk.injEq] at hq
  obtain ⟨rfl, rfl⟩ := hq
  obtain ⟨T, h1, h2, h3, h4, h5⟩ := h.pcs _ hmem
  have := h1.det hd
  subst this
  have h2 : f ≤ u := h2
  have h3 : u ≤ (decS sp).size := h3
  have h4 : (decS sp).extract f u = shT E.F T := h4
  have hz := sz_pos T
  have hts : u - f ≤ 1000 * sz T := by
    have e1 := shT_size2 E.F 900 (by decide) hE.short hd.wt
    have e2 : (shT E.F T).size = u - f := by
      rw [← h4]
      simp [ByteArray.size_extract]
      omega
    omega
  have HK : Hid _ := known_se hr w v h.st hv
  have HG : Hid (∀ (w1 : World) (v0 : Value), RV E.ad q v0 → SX w1 E.ad E.σ → Kt E.ad (fun _ => False) w w1 → w1.cell? ⟨E.b, 3, none⟩ = some (.map (some E.pm)) ∧ (Instr.lookup 193 (.map (some E.pm)) v0 true).run Tryz.prog w1 = .ok (.tuple #[.agg #[.int .i64 f, .int .i64 u], .bool true]) w1 ∧ E.TX w1 l sp es) := by
    intro w1 v0 hv0 hs hk
    have hT := h.kn hE.okk hk hs
    refine ⟨hT.tl.c.2.2.1, ?_, hT⟩
    obtain ⟨τ, s1, _⟩ := hs
    have := run_tmlook s1 hv0 hT.mp 193 200 _ Tryz.underlying193 (Tryz.zPiece w1)
    rw [ha] at this
    exact this
  have HA : Hid (∀ (w1 : World), E.TX w1 l sp es → Kt E.ad (SN E.B E.nm) w w1 → Calls Tryz.prog 125 #[.pointer (some ⟨E.b, 0, none⟩), .agg #[.int .i64 f, .int .i64 u]] w1 fun e w' => e = .returned (.tuple #[]) ∧ WPost E w w' T l sp es (shT E.F T) (1000 * sz T) (sz T)) := by
    intro w1 hT hk
    refine (again_any hT.tl hT.bs (lt_of_block hT.mp.mp) (tl_ne hT) f u h2 h3 (by omega) (by omega)).mono ?_
    rintro e w' ⟨rfl, hL, hk', hp⟩
    have hx : decS (sp ++ [.cp f u]) = decS sp ++ shT E.F T := by rw [decS_snoc, ← h4]; rfl
    refine ⟨rfl, sp ++ [.cp f u], es, ?_, hx, ?_, by simp; omega, fun e he => .inl he, hk.trans ((Kt.of_kq hk').mono (fun _ _ z => .inl z))⟩
    · rw [h5]
      exact hT.more hE.okk hk' hL hp
    · rw [hx, ByteArray.size_append]
      have e2 : (shT E.F T).size = u - f := by
        rw [← h4]
        simp [ByteArray.size_extract]
        omega
      omega
  clear h hmem h1 h4 h5 ha hd hr hv
  go_enter Tryz.func83, Tryz.ntmps83
  go_wp2_with fail
  refine Calls.mono HK.out ?_
  rintro e w1 ⟨v0, rfl, hv0, hs1, hk1⟩
  obtain ⟨T0, u0, rfl⟩ := hv0.iface
  obtain ⟨g1, g2, g3⟩ := HG.out w1 _ hv0 hs1 hk1
  have hka : Kept w1 (w1.alloc (.cells #[.int .i64 f, .int .i64 u] 200)) := Kept.alloc _ _
  have HA1 : Hid _ := HA.out _ (g3.kept hE.okk hka) ((hk1.mono (fun _ _ z => z.elim)).trans (Kt.of_kept hka))
  clear HG HA HK hs1 hv0 g3 hka
  go_wp2_with fail
  refine Calls.mono HA1.out ?_
  rintro e w2 ⟨rfl, hW⟩
  have HW : Hid _ := hW
  clear hW HA1
  go_wp2
  exact bodyPost_ret (results_none Tryz.results83 _ _ _) rfl ⟨rfl, HW.out⟩
set_option maxRecDepth 20000 in
set_option maxHeartbeats 1000000 in
theorem typ_miss (E : WE) (hE : E.Ok) {r r0 : TR} {t : Ty} (hr : Rp E.σ r r0) (hd : Dn E.σ r0 t) (hF : SFst E r0 t) (w : World) (v : Value) (l : List Nat) (sp : List Sp) (es : List (TR × Nat × Nat)) (hv : RV E.ad r v) (h : E.TX w l sp es) (hp : varsM t l <+: E.L) (hn : (decS sp).size + 1000 * sz t ≤ 2147483647) (hl : sp.length + 1000 * sz t ≤ 1000000000) (ha : askT r0 (pvE es) 0 = none) :
    Calls Tryz.prog 83 #[.pointer (some ⟨E.b, 0, none⟩), v] w fun e w' => e = .returned (.tuple #[]) ∧ WPost E w w' t l sp es (shT E.F t) (1000 * sz t) (sz t) := by
  have hz := sz_pos t
  have HK : Hid _ := known_se hr w v h.st hv
  have HG : Hid (∀ (w1 : World) (v0 : Value), RV E.ad r0 v0 → SX w1 E.ad E.σ → Kt E.ad (fun _ => False) w w1 → w1.cell? ⟨E.b, 3, none⟩ = some (.map (some E.pm)) ∧ w1.cell? ⟨E.b, 2, none⟩ = some (.int .i64 (decS sp).size) ∧ (Instr.lookup 193 (.map (some E.pm)) v0 true).run Tryz.prog w1 = .ok (.tuple #[.agg #[.int .i64 0, .int .i64 0], .bool false]) w1 ∧ E.TX w1 l sp es) := by
    intro w1 v0 hv0 hs hk
    have hT := h.kn hE.okk hk hs
    refine ⟨hT.tl.c.2.2.1, hT.tl.c.2.1, ?_, hT⟩
    obtain ⟨τ, s1, _⟩ := hs
    have := run_tmlook s1 hv0 hT.mp 193 200 _ Tryz.underlying193 (Tryz.zPiece w1)
    rw [ha] at this
    exact this
  have HP : Hid (∀ (w2 : World) (v0 : Value) (sp' : List Sp) (es' : List (TR × Nat × Nat)), RV E.ad r0 v0 → E.TX w2 (varsM t l) sp' es' → decS sp' = decS sp ++ shT E.F t → (∀ e, e ∈ es' → e ∈ es ∨ ∃ T, Dn E.σ e.1 T ∧ sz T ≤ sz t - 1) → w2.cell? ⟨E.b, 3, none⟩ = some (.map (some E.pm)) ∧ w2.cell? ⟨E.b, 2, none⟩ = some (.int .i64 (decS sp').size) ∧ (Instr.mapUpdate 193 (.map (some E.pm)) v0 (.agg #[.int .i64 (decS sp).size, .int .i64 (decS sp').size])).run Tryz.prog w2 = .ok () (mapSet w2 E.pm (.map (tEnts E.ad (pvE es' ++ [(r0, .agg #[.int .i64 (decS sp).size, .int .i64 (decS sp').size])]) 0).toArray ((pvE es').length + 1))) ∧ E.TX (mapSet w2 E.pm (.map (tEnts E.ad (pvE es' ++ [(r0, .agg #[.int .i64 (decS sp).size, .int .i64 (decS sp').size])]) 0).toArray ((pvE es').length + 1))) (varsM t l) sp' (es' ++ [(r0, (decS sp).size, (decS sp').size)]) ∧ Kt E.ad (SN E.B E.nm) w2 (mapSet w2 E.pm (.map (tEnts E.ad (pvE es' ++ [(r0, .agg #[.int .i64 (decS sp).size, .int .i64 (decS sp').size])]) 0).toArray ((pvE es').length + 1)))) := by
    intro w2 v0 sp' es' hv0 hT hx hes
    have hno : askT r0 (pvE es') 0 = none := by
      rw [askT_none]
      intro e he z
      obtain ⟨e', he', rfl⟩ := List.mem_map.1 he
      have z : e'.1 = r0 := z
      rcases hes e' he' with q | ⟨T, q1, q2⟩
      · exact (askT_none.1 ha) _ (List.mem_map_of_mem q) z
      · rw [z] at q1
        have := q1.det hd
        subst this
        omega
    refine ⟨hT.tl.c.2.2.1, hT.tl.c.2.1, ?_, ?_, ?_⟩
    · obtain ⟨τ, s1, _⟩ := hT.st
      exact run_tmput s1 hv0 hT.mp 193 200 _ Tryz.underlying193 hno
    · refine TX.piece hT hE.okk hv0 hd (by rw [hx, ByteArray.size_append]; omega) ?_ (varsM_idem hd.wt l _ (List.prefix_refl _)) _ rfl
      rw [hx]
      exact extract_tail _ _
    · refine ⟨rfl, rfl, by simp [mapSet], fun q o' hq hn _ => ?_⟩
      rw [mapSet_other _ _ _ _ (fun z => hn (.inl (by rw [z]; exact hT.pB)))]
      exact hq
  have HF : Hid _ := hF
  clear hr hv hF h ha
  go_enter Tryz.func83, Tryz.ntmps83
  go_wp2_with fail
  refine Calls.mono HK.out ?_
  rintro e w1 ⟨v0, rfl, hv0, hs1, hk1⟩
  obtain ⟨T0, u0, rfl⟩ := hv0.iface
  obtain ⟨g1, g2, g3, g4⟩ := HG.out w1 _ hv0 hs1 hk1
  clear HG HK hs1
  have hka : Kept w1 (w1.alloc (.cells #[.int .i64 0, .int .i64 0] 200)) := Kept.alloc _ _
  have g4 := g4.kept hE.okk hka
  have hk2 : Kt E.ad (SN E.B E.nm) w (w1.alloc (.cells #[.int .i64 0, .int .i64 0] 200)) := (hk1.mono (fun _ _ z => z.elim)).trans (Kt.of_kept hka)
  have c2 := g4.tl.c.2.1
  have HFF : Hid _ := HF.out _ _ _ _ _ hv0 g4 hp hn hl
  clear hka g4 HF hk1
  go_wp2_with fail
  refine Calls.mono HFF.out ?_
  rintro e w2 ⟨rfl, sp', es', hT, hx, hs1, hs2, hes, hk3⟩
  have hkd : Kept w2 w2.drew := ⟨rfl, rfl, Nat.le_refl _, fun _ _ => rfl⟩
  obtain ⟨p1, p2, p3, p4, p5⟩ := HP.out w2.drew _ sp' es' hv0 (hT.kept hE.okk hkd) hx hes
  have p1 : w2.cell? ⟨E.b, 3, none⟩ = some (.map (some E.pm)) := p1
  have p2 : w2.cell? ⟨E.b, 2, none⟩ = some (.int .i64 (decS sp').size) := p2
  have p5 := (Kt.of_kept (ad := E.ad) (S := SN E.B E.nm) hkd).trans p5
  have HX : Hid _ := hx
  have HES : Hid _ := hes
  have P4 : Hid _ := p4
  clear HFF HP hT hx hes hkd p4
  go_wp2_with fail
  go_region
  go_end0
  refine ⟨rfl, sp', _, P4.out, HX.out, hs1, hs2, ?_, (hk2.trans hk3).trans p5⟩
  intro e he
  simp at he
  rcases he with he | rfl
  · rcases HES.out e he with q | ⟨T, q1, q2⟩
    · exact .inl q
    · exact .inr ⟨T, q1, by omega⟩
  · exact .inr ⟨t, hd, Nat.le_refl _⟩
theorem typ_of (E : WE) (hE : E.Ok) {r r0 : TR} {t : Ty} (hr : Rp E.σ r r0) (hd : Dn E.σ r0 t) (hF : SFst E r0 t) : STyp E r t := by
  intro w v l sp es hv h hp hn hl
  cases ha : askT r0 (pvE es) 0 with
  | none => exact typ_miss E hE hr hd hF w v l sp es hv h hp hn hl ha
  | some x => exact typ_hit E hE hr hd w v l sp es hv h hn hl ha
end Go.Proofs.YtleenphlgbklmabGreatDoor

namespace Go.Proofs.YtleenphlgbklmabGreatDoor
open Go.RowKit

theorem Tryz.taBB (v : Value) (w : World) : (Instr.typeAssert (.iface 271 (.agg #[v])) 77 271 true).run Tryz.prog w = .ok (.tuple #[.agg #[v], .bool true]) w := by kernel_rfl
theorem Tryz.taVB (v : Value) (w : World) : (Instr.typeAssert (.iface 124 v) 77 271 true).run Tryz.prog w = .ok (.tuple #[.agg #[.string { data := #[] }], .bool false]) w := by kernel_rfl
theorem Tryz.taLB (v : Value) (w : World) : (Instr.typeAssert (.iface 149 v) 77 271 true).run Tryz.prog w = .ok (.tuple #[.agg #[.string { data := #[] }], .bool false]) w := by kernel_rfl
theorem Tryz.taPB (v : Value) (w : World) : (Instr.typeAssert (.iface 153 v) 77 271 true).run Tryz.prog w = .ok (.tuple #[.agg #[.string { data := #[] }], .bool false]) w := by kernel_rfl
theorem Tryz.taAB (v : Value) (w : World) : (Instr.typeAssert (.iface 157 v) 77 271 true).run Tryz.prog w = .ok (.tuple #[.agg #[.string { data := #[] }], .bool false]) w := by kernel_rfl
theorem Tryz.taVV (v : Value) (w : World) : (Instr.typeAssert (.iface 124 v) 77 124 true).run Tryz.prog w = .ok (.tuple #[v, .bool true]) w := by kernel_rfl
theorem Tryz.taVL (v : Value) (w : World) : (Instr.typeAssert (.iface 124 v) 77 149 true).run Tryz.prog w = .ok (.tuple #[.pointer none, .bool false]) w := by kernel_rfl
theorem Tryz.taVP (v : Value) (w : World) : (Instr.typeAssert (.iface 124 v) 77 153 true).run Tryz.prog w = .ok (.tuple #[.pointer none, .bool false]) w := by kernel_rfl
theorem Tryz.taVA (v : Value) (w : World) : (Instr.typeAssert (.iface 124 v) 77 157 true).run Tryz.prog w = .ok (.tuple #[.pointer none, .bool false]) w := by kernel_rfl
theorem Tryz.taLV (v : Value) (w : World) : (Instr.typeAssert (.iface 149 v) 77 124 true).run Tryz.prog w = .ok (.tuple #[.pointer none, .bool false]) w := by kernel_rfl
theorem Tryz.taLL (v : Value) (w : World) : (Instr.typeAssert (.iface 149 v) 77 149 true).run Tryz.prog w = .ok (.tuple #[v, .bool true]) w := by kernel_rfl
theorem Tryz.taLP (v : Value) (w : World) : (Instr.typeAssert (.iface 149 v) 77 153 true).run Tryz.prog w = .ok (.tuple #[.pointer none, .bool false]) w := by kernel_rfl
theorem Tryz.taLA (v : Value) (w : World) : (Instr.typeAssert (.iface 149 v) 77 157 true).run Tryz.prog w = .ok (.tuple #[.pointer none, .bool false]) w := by kernel_rfl
theorem Tryz.taPV (v : Value) (w : World) : (Instr.typeAssert (.iface 153 v) 77 124 true).run Tryz.prog w = .ok (.tuple #[.pointer none, .bool false]) w := by kernel_rfl
theorem Tryz.taPL (v : Value) (w : World) : (Instr.typeAssert (.iface 153 v) 77 149 true).run Tryz.prog w = .ok (.tuple #[.pointer none, .bool false]) w := by kernel_rfl
theorem Tryz.taPP (v : Value) (w : World) : (Instr.typeAssert (.iface 153 v) 77 153 true).run Tryz.prog w = .ok (.tuple #[v, .bool true]) w := by kernel_rfl
theorem Tryz.taPA (v : Value) (w : World) : (Instr.typeAssert (.iface 153 v) 77 157 true).run Tryz.prog w = .ok (.tuple #[.pointer none, .bool false]) w := by kernel_rfl
theorem Tryz.taAV (v : Value) (w : World) : (Instr.typeAssert (.iface 157 v) 77 124 true).run Tryz.prog w = .ok (.tuple #[.pointer none, .bool false]) w := by kernel_rfl
theorem Tryz.taAL (v : Value) (w : World) : (Instr.typeAssert (.iface 157 v) 77 149 true).run Tryz.prog w = .ok (.tuple #[.pointer none, .bool false]) w := by kernel_rfl
theorem Tryz.taAP (v : Value) (w : World) : (Instr.typeAssert (.iface 157 v) 77 153 true).run Tryz.prog w = .ok (.tuple #[.pointer none, .bool false]) w := by kernel_rfl
theorem Tryz.taAA (v : Value) (w : World) : (Instr.typeAssert (.iface 157 v) 77 157 true).run Tryz.prog w = .ok (.tuple #[v, .bool true]) w := by kernel_rfl
theorem Tryz.taBA (v : Value) (w : World) : (Instr.typeAssert (.iface 271 v) 77 157 true).run Tryz.prog w = .ok (.tuple #[.pointer none, .bool false]) w := by kernel_rfl
end Go.Proofs.YtleenphlgbklmabGreatDoor

namespace Go.Proofs.YtleenphlgbklmabGreatDoor
open Go.RowKit

theorem SX.ls {w : World} {ad : List Nat} {σ : St} (h : SX w ad σ) {i c : Nat} {x : TR} (hi : σ[i]? = some ⟨.ls x, none⟩) (hc : ad[i]? = some c) : ∃ p, RV ad x p ∧ w.cell? ⟨c, 1, none⟩ = some p := by
  obtain ⟨τ, h1, h2⟩ := h
  obtain ⟨sv, o, h3, h4, p, h5, rfl⟩ := h1.blk i _ _ c (h2.root hi) hc
  exact ⟨p, h5, by simp [World.cell?, h3]⟩
theorem SX.pr {w : World} {ad : List Nat} {σ : St} (h : SX w ad σ) {i c : Nat} {x y : TR} (hi : σ[i]? = some ⟨.pr x y, none⟩) (hc : ad[i]? = some c) : ∃ p q, RV ad x p ∧ RV ad y q ∧ w.cell? ⟨c, 1, none⟩ = some p ∧ w.cell? ⟨c, 2, none⟩ = some q := by
  obtain ⟨τ, h1, h2⟩ := h
  obtain ⟨sv, o, h3, h4, p, q, h5, h6, rfl⟩ := h1.blk i _ _ c (h2.root hi) hc
  exact ⟨p, q, h5, h6, by simp [World.cell?, h3], by simp [World.cell?, h3]⟩
theorem SX.ar {w : World} {ad : List Nat} {σ : St} (h : SX w ad σ) {i c : Nat} {x y : TR} (hi : σ[i]? = some ⟨.ar x y, none⟩) (hc : ad[i]? = some c) : ∃ p q, RV ad x p ∧ RV ad y q ∧ w.cell? ⟨c, 1, none⟩ = some p ∧ w.cell? ⟨c, 2, none⟩ = some q := by
  obtain ⟨τ, h1, h2⟩ := h
  obtain ⟨sv, o, h3, h4, p, q, h5, h6, rfl⟩ := h1.blk i _ _ c (h2.root hi) hc
  exact ⟨p, q, h5, h6, by simp [World.cell?, h3], by simp [World.cell?, h3]⟩
/-- tokens, in the writer. -/
theorem tok_step (E : WE) (hE : E.Ok) (w : World) (l : List Nat) (sp : List Sp) (es : List (TR × Nat × Nat)) (h : E.TX w l sp es) (s : ByteArray) (hs : 0 < s.size) (hn : (decS sp).size + s.size ≤ 2147483647) (hl : sp.length + 1 ≤ 1000000000) :
    Calls Tryz.prog 157 #[.pointer (some ⟨E.b, 0, none⟩), .string s] w fun e w' => e = .returned (.tuple #[]) ∧ E.TX w' l (sp ++ [.tk s]) es ∧ Kt E.ad (SN E.B E.nm) w w' := by
  refine (tks_any h.tl h.bs (lt_of_block h.mp.mp) (tl_ne h) s hs hn hl).mono ?_
  rintro e w' ⟨rfl, hL, hk, hp⟩
  exact ⟨rfl, h.more hE.okk hk hL hp, (Kt.of_kq hk).mono (fun _ _ z => .inl z)⟩
theorem decS_tk (sp : List Sp) (s : ByteArray) : decS (sp ++ [.tk s]) = decS sp ++ s := by rw [decS_snoc]; rfl
theorem decS_tk_size (sp : List Sp) (s : ByteArray) : (decS (sp ++ [.tk s])).size = (decS sp).size + s.size := by rw [decS_tk]; simp
set_option maxRecDepth 20000 in
set_option maxHeartbeats 1000000 in
theorem first_base (E : WE) (hE : E.Ok) (s : ByteArray) (hs : s = { data := #[105, 110, 116] } ∨ s = { data := #[98, 111, 111, 108] }) (r : TR) (hr : ∀ v, RV E.ad r v → v = .iface 271 (.agg #[.string s])) : SFst E r (.mk s 0 []) := by
  intro w v l sp es hv h hp hn hl
  have hsz : sz (.mk s 0 []) = 1 := by simp [sz, szs]
  have hks : s.size ≤ 4 ∧ 0 < s.size := by rcases hs with rfl | rfl <;> decide
  have hx : shT E.F (.mk s 0 []) = s := by rcases hs with rfl | rfl; exact shT_int _; exact shT_bool _
  have hvm : varsM (.mk s 0 []) l = l := by rcases hs with rfl | rfl; exact varsM_int l; exact varsM_bool l
  rw [hsz] at hn hl ⊢
  have e := hr v hv
  subst e
  have HT : Hid (∀ w', Kept w w' → Calls Tryz.prog 157 #[.pointer (some ⟨E.b, 0, none⟩), .string s] w' fun e w'' => e = .returned (.tuple #[]) ∧ E.TX w'' l (sp ++ [.tk s]) es ∧ Kt E.ad (SN E.B E.nm) w' w'') := fun w' hk => tok_step E hE w' l sp es (h.kept hE.okk hk) s hks.2 (by omega) (by omega)
  have hta := Tryz.taBB (.string s) w
  have hka : Kept w (w.alloc (.cells #[.string s] 271)) := Kept.alloc _ _
  have HT2 : Hid _ := HT.out _ hka
  clear h hv hr HT
  go_enter Tryz.func126, Tryz.ntmps126
  go_wp2_with fail
  refine Calls.mono HT2.out ?_
  rintro e w1 ⟨rfl, hT, hk⟩
  go_wp2
  go_end0
  refine ⟨rfl, sp ++ [.tk s], es, ?_, ?_, ?_, by simp, fun e he => .inl he, (Kt.of_kept hka).trans hk⟩
  · rw [hvm]; exact hT
  · rw [hx, decS_tk]
  · rw [decS_tk_size]; omega
set_option maxRecDepth 20000 in
set_option maxHeartbeats 1000000 in
theorem first_list (E : WE) (hE : E.Ok) (i c : Nat) (x : TR) (a : Ty) (hi : E.σ[i]? = some ⟨.ls x, none⟩) (hc : E.ad[i]? = some c) (ih : STyp E x a) : SFst E (.nd .ls i) (.mk { data := #[108, 105, 115, 116] } 0 [a]) := by
  intro w v l sp es hv h hp hn hl
  have hsz : sz (.mk { data := #[108, 105, 115, 116] } 0 [a]) = sz a + 1 := by simp [sz, szs]
  obtain ⟨c', hc', rfl⟩ := hv
  rw [show Kd.ls.tp = 149 from rfl]
  rw [hc] at hc'
  simp at hc'
  subst hc'
  rw [varsM_list] at hp
  rw [hsz] at hn hl ⊢
  rw [shT_list]
  have s1 : ({ data := #[91] } : ByteArray).size = 1 := rfl
  have s2 : ({ data := #[93] } : ByteArray).size = 1 := rfl
  have H1 : Hid _ := tok_step E hE w l sp es h { data := #[91] } (by decide) (by omega) (by omega)
  have HX : Hid (∀ w1 l sp es, E.TX w1 l sp es → ∃ p, RV E.ad x p ∧ w1.cell? ⟨c, 1, none⟩ = some p) := fun w1 l sp es hT => hT.st.ls hi hc
  have HI : Hid (∀ (w1 : World) (p : Value), RV E.ad x p → E.TX w1 l (sp ++ [.tk { data := #[91] }]) es → Calls Tryz.prog 83 #[.pointer (some ⟨E.b, 0, none⟩), p] w1 fun e w' => e = .returned (.tuple #[]) ∧ WPost E w1 w' a l (sp ++ [.tk { data := #[91] }]) es (shT E.F a) (1000 * sz a) (sz a)) := fun w1 p hp1 hT => ih w1 p l _ es hp1 hT hp (by rw [decS_tk_size]; omega) (by simp; omega)
  have HC : Hid (∀ (w2 : World) (l2 : List Nat) (sp2 : List Sp) (es2 : List (TR × Nat × Nat)), E.TX w2 l2 sp2 es2 → (decS sp2).size ≤ (decS (sp ++ [.tk { data := #[91] }])).size + 1000 * sz a → sp2.length ≤ (sp ++ [Sp.tk { data := #[91] }]).length + 1000 * sz a → Calls Tryz.prog 157 #[.pointer (some ⟨E.b, 0, none⟩), .string { data := #[93] }] w2 fun e w' => e = .returned (.tuple #[]) ∧ E.TX w' l2 (sp2 ++ [.tk { data := #[93] }]) es2 ∧ Kt E.ad (SN E.B E.nm) w2 w') := fun w2 l2 sp2 es2 hT q1 q2 => tok_step E hE w2 l2 sp2 es2 hT { data := #[93] } (by decide) (by rw [decS_tk_size] at q1; omega) (by simp at q2; omega)
  have t1 := Tryz.taLB (.pointer (some ⟨c, 0, none⟩)) w
  have t2 := Tryz.taLV (.pointer (some ⟨c, 0, none⟩)) w
  have t3 := Tryz.taLL (.pointer (some ⟨c, 0, none⟩)) w
  clear h ih hi hc hp
  go_enter Tryz.func126, Tryz.ntmps126
  go_wp2_with fail
  refine Calls.mono H1.out ?_
  rintro e w1 ⟨rfl, hT1, hk1⟩
  obtain ⟨p, hp, hx1⟩ := HX.out w1 _ _ _ hT1
  have HI1 : Hid _ := HI.out w1 p hp hT1
  clear H1 HX HI hT1
  obtain ⟨T, u, rfl⟩ := hp.iface
  go_wp2_with fail
  refine Calls.mono HI1.out ?_
  rintro e w2 ⟨rfl, sp2, es2, hT2, hd2, q1, q2, hes, hk2⟩
  have HC2 : Hid _ := HC.out w2 _ sp2 es2 hT2 q1 q2
  have HD : Hid _ := hd2
  have HES : Hid _ := hes
  have Q1 : Hid _ := q1
  have Q2 : Hid _ := q2
  clear HC HI1 hT2 hd2 hes q1 q2
  go_wp2_with fail
  refine Calls.mono HC2.out ?_
  rintro e w3 ⟨rfl, hT3, hk3⟩
  clear HC2
  go_wp2
  go_end0
  have q1 := Q1.out
  have q2 := Q2.out
  rw [decS_tk_size] at q1
  simp at q2
  refine ⟨rfl, sp2 ++ [.tk { data := #[93] }], es2, ?_, ?_, ?_, by simp; omega, ?_, (hk1.trans hk2).trans hk3⟩
  · rw [varsM_list]; exact hT3
  · rw [decS_tk, HD.out, decS_tk]; simp [ByteArray.append_assoc]
  · rw [decS_tk_size]; omega
  · intro e he
    rcases HES.out e he with q | ⟨T, h1, h2⟩
    · exact .inl q
    · exact .inr ⟨T, h1, by omega⟩
end Go.Proofs.YtleenphlgbklmabGreatDoor
