import Derived.Test.YtleenphlgbklmabGreatDoorZPRdB
import Derived.Test.YtleenphlgbklmabGreatDoorZPHb
set_option linter.unusedVariables false
set_option linter.unusedSimpArgs false
namespace Go.Proofs.YtleenphlgbklmabGreatDoor
open Go.RowKit

theorem Tryz.infoRd : (Tryz.prog.info? 39).map (fun i => (i.zero, i.size, i.bytes)) = some (some (.agg #[.slice none 0 0, .int .i64 0, .slice none 0 0]), 3, 56) := by kernel_rfl
def bMine : ByteArray := { data := #[109, 105, 110, 101] }
/-- texts that are written over. -/
def mineL (l : List ByteArray) (j : Nat) : List ByteArray := List.replicate j bMine ++ l.drop j
theorem SRw.set {w : World} {g : Nat} {l : List ByteArray} {j : Nat} (h : SRw w g (mineL l j)) (hj : j < l.length) : SRw (w.setCell ⟨g, j, none⟩ (.string bMine)) g (mineL l (j + 1)) ∧ (∃ v, w.cell? ⟨g, j, none⟩ = some v) ∧ w.frozen? ⟨g, j, none⟩ = false := by
  obtain ⟨cs, h1, h2⟩ := h
  have hjc : j < cs.size := by
    have := h2 j (by simp [mineL]; omega)
    exact (Array.getElem?_eq_some_iff.1 this).1
  refine ⟨⟨cs.set! j (.string bMine), by simp [World.setCell, h1, Array.getElem?_modify], fun i hi => ?_⟩, ⟨_, (SRw.cell ⟨cs, h1, h2⟩ j (by simp [mineL]; omega))⟩, by simp [World.frozen?, h1]⟩
  have hil : i < l.length := by simp [mineL] at hi; omega
  by_cases e : i = j
  · subst e
    rw [Array.set!_eq_setIfInBounds, Array.getElem?_setIfInBounds_self_of_lt hjc]
    simp [mineL, List.getElem_append]
  · rw [Array.set!_eq_setIfInBounds, Array.getElem?_setIfInBounds_ne (fun z => e z.symm), h2 i (by simp [mineL]; omega)]
    congr 2
    simp only [mineL, List.getElem_append, List.length_replicate]
    by_cases h3 : i < j
    · rw [dif_pos h3, dif_pos (by omega)]
      simp
    · rw [dif_neg h3, dif_neg (by omega)]
      simp only [List.getElem_drop]
      congr 1
      omega
theorem WKP.rv {P : Nat → Prop} {B wb ob sb stop : Nat} {w : World} {o : List Rdt} {r : Rdt} (h : WKP P B wb ob sb stop w (o ++ [r])) : ∃ gr cap, w.cell? ⟨wb, 0, none⟩ = some (.slice (some ⟨gr, 0, none⟩) (o.length + 1) cap) := by
  obtain ⟨rv, ps, _, hb, ho, _⟩ := h.cs
  rcases ho.2 with ⟨_, e⟩ | ⟨gr, cap, cur, e, _⟩
  · simp at e
  · refine ⟨gr, cap, ?_⟩
    rw [List.length_append] at e
    have e' : rv = .slice (some ⟨gr, 0, none⟩) (o.length + 1) cap := e
    simp [World.cell?, hb, wtC, e']
set_option maxRecDepth 20000 in
set_option maxHeartbeats 4000000 in
theorem wat_sx {B wb ob sb mb fb stop rd : Nat} {w : World} {o : List Rdt} (hw : B ≤ w.heap.size) {g g2 : Nat} (h : WKP (fun q => q ≠ g ∧ q ≠ g2) B wb ob sb stop w o) (hgg : g ≠ g2) {names texts : List ByteArray} (r1 : SRw w g names) (r2 : SRw w g2 texts) (hn : names ≠ []) (hl : texts.length = names.length) (hm : names.length ≤ 1000) (ho : o.length ≤ 1000) (hst : stop ≤ 1000000) :
    Calls Tryz.prog 28 #[.slice (some ⟨g, 0, none⟩) names.length names.length, .int .i64 rd, .slice (some ⟨g2, 0, none⟩) names.length names.length, .pointer (some ⟨wb, 0, none⟩), .pointer (some ⟨ob, 0, none⟩), .pointer (some ⟨mb, 0, none⟩), .pointer (some ⟨fb, 0, none⟩), .pointer (some ⟨sb, 0, none⟩)] w fun e w' => e = .returned (.bool (decide (¬ (o.length + 1 = stop)))) ∧ WK B wb ob sb stop w' (o ++ [(names, rd, texts)]) ∧ Kdw B (fun q => q = g ∨ q = g2) w w' := by
  obtain ⟨i0, hi, hij⟩ := Option.map_eq_some_iff.1 Tryz.infoRd
  obtain ⟨hz0, hz1, hz2⟩ : i0.zero = some (.agg #[.slice none 0 0, .int .i64 0, .slice none 0 0]) ∧ i0.size = 3 ∧ i0.bytes = 56 := by
    have := hij
    simp only [Prod.mk.injEq] at this
    exact this
  have htn : texts ≠ [] := fun z => hn (List.length_eq_zero_iff.1 (by rw [← hl, z]; rfl))
  obtain ⟨rv, hrv⟩ : ∃ rv, w.cell? ⟨wb, 0, none⟩ = some rv := by
    obtain ⟨rv, ps, _, hb, _⟩ := h.cs
    exact ⟨rv, by simp [World.cell?, hb, wtC]⟩
  have HC : Hid (Calls Tryz.prog 29 #[.slice (some ⟨g, 0, none⟩) names.length names.length] w.drew fun e u1 => ∃ g1 c1, e = .returned (.slice (some ⟨g1, 0, none⟩) names.length c1) ∧ u1.cell? ⟨wb, 0, none⟩ = some rv ∧
      Hid (Calls Tryz.prog 29 #[.slice (some ⟨g2, 0, none⟩) names.length names.length] u1 fun e u2 => ∃ g3 c3, e = .returned (.slice (some ⟨g3, 0, none⟩) names.length c3) ∧ u2.cell? ⟨wb, 0, none⟩ = some rv ∧ (u2.alloc (.cells #[.slice (some ⟨g1, 0, none⟩) names.length c1, .int .i64 rd, .slice (some ⟨g3, 0, none⟩) names.length c3] 39)).cell? ⟨wb, 0, none⟩ = some rv ∧ ∃ xs, Hid (u2.ownsRow B 39 3 rv o.length xs) ∧ Hid (B ≤ u2.heap.size) ∧ Hid (∀ (gr cap : Nat) (w3 : World), w3.ownsRow B 39 3 (.slice (some ⟨gr, 0, none⟩) (o.length + 1) cap) (o.length + 1) (xs ++ [.slice (some ⟨g1, 0, none⟩) names.length c1, .int .i64 rd, .slice (some ⟨g3, 0, none⟩) names.length c3]) →
      (u2.alloc (.cells #[.slice (some ⟨g1, 0, none⟩) names.length c1, .int .i64 rd, .slice (some ⟨g3, 0, none⟩) names.length c3] 39)).grownBy w3 rv.ownBlock →
      w3.cell? ⟨wb, 0, none⟩ = some rv ∧ w3.frozen? ⟨wb, 0, none⟩ = false ∧ Hid (WKP (fun q => q ≠ g ∧ q ≠ g2) B wb ob sb stop (w3.setCell ⟨wb, 0, none⟩ (.slice (some ⟨gr, 0, none⟩) (o.length + 1) cap)) (o ++ [(names, rd, texts)]) ∧ Kdw B (fun _ => False) w (w3.setCell ⟨wb, 0, none⟩ (.slice (some ⟨gr, 0, none⟩) (o.length + 1) cap))) ∧ w3.heap.size = (w3.setCell ⟨wb, 0, none⟩ (.slice (some ⟨gr, 0, none⟩) (o.length + 1) cap)).heap.size))) := by
    refine (clone_any (r1.kept (Kept.drew w)) hn hm).mono ?_
    rintro e u1 ⟨g1, c1, rfl, f1, s1, k1⟩
    have f1 : w.heap.size ≤ g1 := f1
    have k1' := (Kept.drew w).trans k1
    refine ⟨g1, c1, rfl, k1'.cell hrv, ?_⟩
    have := clone_any (r2.kept k1') htn (by omega)
    rw [hl] at this
    refine this.mono ?_
    rintro e u2 ⟨g3, c3, rfl, f3, s2, k2⟩
    have hku := k1'.trans k2
    obtain ⟨rv', xs, q1, q2, q3, q4⟩ := WKP.app (rd := rd) (c1 := c1) (c2 := c3) hw h hku (s1.kept k2) s2 ⟨by have := r1.lt; omega, by have := r2.lt; omega⟩ ⟨by have := r1.lt; have := k1'.size; omega, by have := r2.lt; have := k1'.size; omega⟩
    have hre : rv' = rv := by rw [hrv] at q2; simpa using q2.symm
    subst hre
    rw [hl] at q4
    exact ⟨g3, c3, rfl, hku.cell hrv, (hku.trans (Kept.alloc _ _)).cell hrv, xs, q3, Nat.le_trans hw hku.size, fun gr cap w3 a b => by
      obtain ⟨p1, p2, p3, p4, p5⟩ := q4 gr cap w3 a b
      exact ⟨p1, p2, ⟨p3, p4⟩, p5⟩⟩
  have hrv' : w.drew.cell? ⟨wb, 0, none⟩ = some rv := hrv
  have HR : Hid (SRw w g names ∧ SRw w g2 texts) := ⟨r1, r2⟩
  have HHL : Hid (texts.length = names.length) := hl
  clear h r1 r2 hl
  go_enter Tryz.func28, Tryz.ntmps28
  go_wp2_with fail
  go_cut [25] (fun v wx => ∃ gr cap, v = .slice (some ⟨gr, 0, none⟩) (o.length + 1) cap ∧ wx.cell? ⟨wb, 0, none⟩ = some (.slice (some ⟨gr, 0, none⟩) (o.length + 1) cap) ∧ Hid (WKP (fun q => q ≠ g ∧ q ≠ g2) B wb ob sb stop wx (o ++ [(names, rd, texts)]) ∧ Kdw B (fun _ => False) w wx))
  case first =>
    go_region_law (first
      | (refine step_append_own2 (by rfl) (.tmp 17) (.tmp 24) 33 (by rfl) B 39 i0 (.agg #[.slice none 0 0, .int .i64 0, .slice none 0 0]) 3 56 Tryz.underlying33 hi hz0 hz1 hz2 rfl (by decide) _ _ _ (by rfl) (World.ownsRow.alloc HO.out _) ⟨u2.heap.size, 0, none⟩ 1 1 [.slice (some ⟨g1, 0, none⟩) names.length c1, .int .i64 rd, .slice (some ⟨g3, 0, none⟩) names.length c3] (by rfl) rfl (fun q u hq => by match q, hq with | 0, hq => simp at hq; subst hq; simp [Addr.add] | 1, hq => simp at hq; subst hq; simp [Addr.add] | 2, hq => simp at hq; subst hq; simp [Addr.add]) (fun u hu => by simp at hu; rcases hu with rfl | rfl | rfl <;> rfl) (by unfold maxLen; omega) (by omega) (by have := HZ.out; simp; omega) (by decide) ?_; intro gr cap w3 hown3 hgrow3 hfr3; obtain ⟨x1, x2, HX, x3⟩ := HA.out gr cap w3 hown3 hgrow3)
      | (go_simp; go_wp2_with (first | (go_at_call_of 29 (Value.slice (some ⟨g, 0, none⟩) names.length names.length); refine Calls.mono HC.out ?_; rintro e u1 ⟨g1, c1, rfl, d1, HD⟩; clear HC) | (go_at_call_of 29 (Value.slice (some ⟨g2, 0, none⟩) names.length names.length); refine Calls.mono HD.out ?_; rintro e u2 ⟨g3, c3, rfl, d2, d3, xs, HO, HZ, HA⟩; clear HD))))
    all_goals
      have x4 : (w3.setCell ⟨wb, 0, none⟩ (.slice (some ⟨gr, 0, none⟩) (o.length + 1) cap)).cell? ⟨wb, 0, none⟩ = some (.slice (some ⟨gr, 0, none⟩) (o.length + 1) cap) := World.cell?_setCell_same _ _ _ (u := rv) x1
      go_wp2_with fail
      go_meet
      case rel => exact ⟨gr, cap, rfl, x4, HX⟩
  case rest =>
    obtain ⟨gr, cap, rfl, cr, HX⟩ := hcut
    clear HC
    have co : wc.cell? ⟨ob, 0, none⟩ = some (.string { data := #[] }) := cell_of HX.out.1.oc rfl
    have HI : Hid (WKP (fun q => q ≠ g ∧ q ≠ g2) B wb ob sb stop wc (o ++ [(names, rd, texts)]) ∧ Kdw B (fun q => q = g ∨ q = g2) w wc ∧ SRw wc g (mineL names 0) ∧ SRw wc g2 (mineL texts 0)) := ⟨HX.out.1, HX.out.2.mono (fun _ z => z.elim), by simpa [mineL] using HR.out.1.kd HX.out.2 id, by simpa [mineL] using HR.out.2.kd HX.out.2 id⟩
    clear HX HR cr
    go_wp2_with fail
    clear co
    go_loopw [51] (fun i wr => ∃ j : Nat, j ≤ names.length ∧ i = .int .i64 j ∧ Hid (WKP (fun q => q ≠ g ∧ q ≠ g2) B wb ob sb stop wr (o ++ [(names, rd, texts)]) ∧ Kdw B (fun q => q = g ∨ q = g2) w wr ∧ SRw wr g (mineL names j) ∧ SRw wr g2 (mineL texts 0))) (fun i _ => names.length - (intOf i).toNat)
    case atStart => exact ⟨0, Nat.zero_le _, rfl, HI⟩
    case round =>
      obtain ⟨j, hj, rfl, HJ⟩ := hrel
      by_cases hlt : j < names.length
      · obtain ⟨hS, ⟨v0, cx⟩, fz⟩ := HJ.out.2.2.1.set hlt
        obtain ⟨cs, hgc, _⟩ := HJ.out.2.2.1
        have HN : Hid (WKP (fun q => q ≠ g ∧ q ≠ g2) B wb ob sb stop (wr.setCell ⟨g, j, none⟩ (.string bMine)) (o ++ [(names, rd, texts)]) ∧ Kdw B (fun q => q = g ∨ q = g2) w (wr.setCell ⟨g, j, none⟩ (.string bMine)) ∧ SRw (wr.setCell ⟨g, j, none⟩ (.string bMine)) g (mineL names (j + 1)) ∧ SRw (wr.setCell ⟨g, j, none⟩ (.string bMine)) g2 (mineL texts 0)) := ⟨HJ.out.1.set hgc (fun z => z.1 rfl) _, HJ.out.2.1.set (.inl rfl) _ _, hS, by
          obtain ⟨ds, d1, d2⟩ := HJ.out.2.2.2
          exact ⟨ds, (Below.heap_setCell _ _ _ _ (fun z => hgg z.symm)).trans d1, d2⟩⟩
        clear hS hgc HJ HI
        unfold bMine at HN
        go_wp2
        go_roundw
        case measure => simp [intOf]; omega
        case rel => exact ⟨j + 1, hlt, by go_num, HN.out⟩
      · clear HI
        have HI2 : Hid (WKP (fun q => q ≠ g ∧ q ≠ g2) B wb ob sb stop wr (o ++ [(names, rd, texts)]) ∧ Kdw B (fun q => q = g ∨ q = g2) w wr ∧ SRw wr g2 (mineL texts 0)) := ⟨HJ.out.1, HJ.out.2.1, HJ.out.2.2.2⟩
        clear HJ
        go_wp2_with fail
        go_loopw [60] (fun i w2 => ∃ j : Nat, j ≤ names.length ∧ i = .int .i64 j ∧ Hid (WKP (fun q => q ≠ g ∧ q ≠ g2) B wb ob sb stop w2 (o ++ [(names, rd, texts)]) ∧ Kdw B (fun q => q = g ∨ q = g2) w w2 ∧ SRw w2 g2 (mineL texts j))) (fun i _ => names.length - (intOf i).toNat)
        case atStart => exact ⟨0, Nat.zero_le _, rfl, HI2⟩
        case round =>
          rename_i w2
          obtain ⟨j2, hj2, rfl, HJ⟩ := hrel
          by_cases hlt2 : j2 < names.length
          · obtain ⟨hS, ⟨v0, cx⟩, fz⟩ := HJ.out.2.2.set (by rw [HHL.out]; exact hlt2)
            obtain ⟨cs, hgc, _⟩ := HJ.out.2.2
            have HN : Hid _ := And.intro (HJ.out.1.set (j := j2) hgc (fun z => z.2 rfl) (.string bMine)) (And.intro (HJ.out.2.1.set (g := g2) (.inr rfl) j2 (.string bMine)) hS)
            clear hS hgc HJ HI2
            unfold bMine at HN
            go_wp2
            go_roundw
            case measure => simp [intOf]; omega
            case rel => exact ⟨j2 + 1, hlt2, by go_num, HN.out⟩
          · obtain ⟨gr2, cap2, cw⟩ := HJ.out.1.rv
            have cs := cell_of HJ.out.1.sc (i := 0) rfl
            have HF : Hid _ := HJ.out
            clear HJ HI2
            go_wp2
            go_ret
            refine ⟨?_, HF.out.1.mono (fun _ _ _ => trivial), HF.out.2.1⟩
            show Ending.returned (.bool (((o.length : Int) + 1) != (stop : Int))) = _
            congr 2
            by_cases hq : o.length + 1 = stop
            · have hq' : ((o.length : Int) + 1) = (stop : Int) := by omega
              simp [hq, hq']
            · have hq' : ¬ ((o.length : Int) + 1) = (stop : Int) := by omega
              simp [hq, hq']
end Go.Proofs.YtleenphlgbklmabGreatDoor
