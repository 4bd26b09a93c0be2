import Derived.Test.YtleenphlgbklmaaDoorParts
import Derived.Test.YtleenphlgbklmaaDoorAs
namespace Go.Proofs.YtleenphlgbklmaaDoor
open Go.RowKit Go.Extern.Stop Go.Stop Go.Extern

theorem Tryd.info4 : (Tryd.prog.info? 4).map (fun i => (i.zero, i.size, i.bytes)) = some (some (.bool false), 1, 1) := by kernel_rfl

def errsBlock (A : Nat → Addr) : Obj := .cells #[.iface 68 (.pointer (some (A 0))), .iface 68 (.pointer (some (A 1))), .iface 68 (.pointer (some (A 2))), .iface 68 (.pointer (some (A 3))), .iface 68 (.pointer (some (A 4))), .iface 68 (.pointer (some (A 5))), .iface 68 (.pointer (some (A 6))), .iface 68 (.pointer (some (A 7)))] 28

theorem asWorld_facts {B : Nat} {a W : World} {e t : Addr} {old : Value} (ht : W.cell? t = some old) (hB : B ≤ t.block) (hS : B ≤ W.heap.size) (hb : Below B a W) :
    Below B a (asWorld e t W) ∧ (asWorld e t W).cell? t = some (.pointer (some e)) ∧ (∀ p : Addr, p ≠ t → p.block < W.heap.size → (asWorld e t W).cell? p = W.cell? p) ∧
      (∀ base v n xs, W.ownsRow base 4 1 v n xs → v.ownBlock ≠ some t.block → (asWorld e t W).ownsRow base 4 1 v n xs) := by
  have hl := World.block_lt_of_cell? _ _ ht
  refine ⟨?_, ?_, ?_, ?_⟩
  · exact ((((hb.alloc hS _).alloc (by simp; omega) _).alloc (by simp; omega) _).alloc (by simp; omega) _).setCell hB _
  · unfold asWorld
    refine World.cell?_setCell_same _ _ _ (u := old) ?_
    rw [World.cell?_alloc_lt _ _ t (by simp; omega), World.cell?_alloc_lt _ _ t (by simp; omega), World.cell?_alloc_lt _ _ t (by simp; omega), World.cell?_alloc_lt _ _ t (by omega)]
    exact ht
  · intro p hp hlt
    unfold asWorld
    rw [World.cell?_setCell_other _ _ _ _ (Ne.symm hp), World.cell?_alloc_lt _ _ p (by simp; omega), World.cell?_alloc_lt _ _ p (by simp; omega), World.cell?_alloc_lt _ _ p (by simp; omega), World.cell?_alloc_lt _ _ p (by omega)]
  · intro base v n xs ho hne
    unfold asWorld
    exact ownsRow_setCell_other ((((ho.alloc _).alloc _).alloc _).alloc _) hne _

theorem errs_cell (A : Nat → Addr) (w : World) (o : Obj) (i : Nat) (hi : i < 8) : ((w.alloc o).alloc (errsBlock A)).cell? ⟨w.heap.size + 1, i, none⟩ = some (.iface 68 (.pointer (some (A i)))) := by
  have : i = 0 ∨ i = 1 ∨ i = 2 ∨ i = 3 ∨ i = 4 ∨ i = 5 ∨ i = 6 ∨ i = 7 := by omega
  rcases this with rfl | rfl | rfl | rfl | rfl | rfl | rfl | rfl <;> simp [errsBlock]

set_option maxHeartbeats 2000000 in
theorem plain_names (A : Nat → Addr) (w : World) (hS : Sens A w)
    (g0 : w.cell? ⟨0, 0, none⟩ = some (.iface 68 (.pointer (some (A 0))))) (g1 : w.cell? ⟨1, 0, none⟩ = some (.iface 68 (.pointer (some (A 1)))))
    (g2 : w.cell? ⟨2, 0, none⟩ = some (.iface 68 (.pointer (some (A 2))))) (g3 : w.cell? ⟨3, 0, none⟩ = some (.iface 68 (.pointer (some (A 3)))))
    (g4 : w.cell? ⟨4, 0, none⟩ = some (.iface 68 (.pointer (some (A 4))))) (g5 : w.cell? ⟨5, 0, none⟩ = some (.iface 68 (.pointer (some (A 5)))))
    (g6 : w.cell? ⟨6, 0, none⟩ = some (.iface 68 (.pointer (some (A 6))))) (g7 : w.cell? ⟨7, 0, none⟩ = some (.iface 68 (.pointer (some (A 7)))))
    (g8 : w.cell? ⟨8, 0, none⟩ = some (.iface 54 (.agg #[.pointer (some ⟨9, 28, none⟩)]))) (h9 : 8 < w.heap.size) :
    Calls Tryd.prog 4 #[] w fun e w' => ∃ v, e = .returned (.tuple #[.slice (some ⟨w.heap.size, 0, none⟩) 5 5, v, .int .i64 3]) ∧ w'.ownsRow (w.heap.size + 2) 4 1 v 128 (fl 64) ∧
      Below (w.heap.size + 2) ((w.alloc (.cells #[.int .i64 300, .int .i64 8, .int .i64 40, .int .i64 120, .int .i64 12] 3)).alloc (errsBlock A)) w' := by
  obtain ⟨i0, hi, hz0, hz1, hz2⟩ := info_parts Tryd.info4
  have up : ∀ (o : Obj) (k : Nat) (v : Value), k < 9 → w.cell? ⟨k, 0, none⟩ = some v → (w.alloc o).cell? ⟨k, 0, none⟩ = some v := fun o k v hk h => by
    rw [World.cell?_alloc_lt _ _ ⟨k, 0, none⟩ (by simp; omega)]; exact h
  have f0 := up (.cells #[.int .i64 300, .int .i64 8, .int .i64 40, .int .i64 120, .int .i64 12] 3) 0 _ (by omega) g0
  have f1 := up (.cells #[.int .i64 300, .int .i64 8, .int .i64 40, .int .i64 120, .int .i64 12] 3) 1 _ (by omega) g1
  have f2 := up (.cells #[.int .i64 300, .int .i64 8, .int .i64 40, .int .i64 120, .int .i64 12] 3) 2 _ (by omega) g2
  have f3 := up (.cells #[.int .i64 300, .int .i64 8, .int .i64 40, .int .i64 120, .int .i64 12] 3) 3 _ (by omega) g3
  have f4 := up (.cells #[.int .i64 300, .int .i64 8, .int .i64 40, .int .i64 120, .int .i64 12] 3) 4 _ (by omega) g4
  have f5 := up (.cells #[.int .i64 300, .int .i64 8, .int .i64 40, .int .i64 120, .int .i64 12] 3) 5 _ (by omega) g5
  have f6 := up (.cells #[.int .i64 300, .int .i64 8, .int .i64 40, .int .i64 120, .int .i64 12] 3) 6 _ (by omega) g6
  have f7 := up (.cells #[.int .i64 300, .int .i64 8, .int .i64 40, .int .i64 120, .int .i64 12] 3) 7 _ (by omega) g7
  clear up g0 g1 g2 g3 g4 g5 g6 g7
  go_enter Tryd.func4, Tryd.ntmps4
  go_wp2
  have ec := errs_cell A w (.cells #[.int .i64 300, .int .i64 8, .int .i64 40, .int .i64 120, .int .i64 12] 3)
  have hS2 : Sens A ((w.alloc (.cells #[.int .i64 300, .int .i64 8, .int .i64 40, .int .i64 120, .int .i64 12] 3)).alloc (errsBlock A)) :=
    hS.below (Nat.le_refl _) (((Below.refl _ _).alloc (Nat.le_refl _) _).alloc (by simp) _)
  have sz2 : ((w.alloc (.cells #[.int .i64 300, .int .i64 8, .int .i64 40, .int .i64 120, .int .i64 12] 3)).alloc (errsBlock A)).heap.size = w.heap.size + 2 := by simp
  have g82 : ((w.alloc (.cells #[.int .i64 300, .int .i64 8, .int .i64 40, .int .i64 120, .int .i64 12] 3)).alloc (errsBlock A)).cell? ⟨8, 0, none⟩ = some (.iface 54 (.agg #[.pointer (some ⟨9, 28, none⟩)])) := by
    rw [World.cell?_alloc_lt _ _ ⟨8, 0, none⟩ (by simp; omega), World.cell?_alloc_lt _ _ ⟨8, 0, none⟩ (by simp; omega)]; exact g8
  change Code.wp _ _ _ _ ((w.alloc (.cells #[.int .i64 300, .int .i64 8, .int .i64 40, .int .i64 120, .int .i64 12] 3)).alloc (errsBlock A))
  generalize hw2 : (w.alloc (.cells #[.int .i64 300, .int .i64 8, .int .i64 40, .int .i64 120, .int .i64 12] 3)).alloc (errsBlock A) = w2 at *
  clear f0 f1 f2 f3 f4 f5 f6 f7 g8 hS
  have HW : Hid ((w.alloc (.cells #[.int .i64 300, .int .i64 8, .int .i64 40, .int .i64 120, .int .i64 12] 3)).alloc (errsBlock A) = w2) := hw2
  clear hw2
  go_loopw [1, 23] (fun v i wr => ∃ k : Nat, k ≤ 8 ∧ i = .int .i64 k ∧ wr.ownsRow (w.heap.size + 2) 4 1 v (2 * (8 * k)) (fl (8 * k)) ∧ Below (w.heap.size + 2) w2 wr) (fun _ i _ => 8 - (intOf i).toNat)
  case atStart => exact ⟨0, by omega, rfl, World.ownsRow_nil _ _ _ _, Below.refl _ _⟩
  case round =>
    obtain ⟨k, hk, rfl, hown, hbel⟩ := hrel
    have hsz := hbel.size
    rw [sz2] at hsz
    by_cases hlt : k < 8
    · have hc : wr.cell? ⟨w.heap.size + 1, k, none⟩ = some (.iface 68 (.pointer (some (A k)))) := (hbel.cell (by simp)).trans (ec k hlt)
      go_wp2
      have hpb : (wr.alloc (.cells #[.string { data := #[120] }, .iface 68 (.pointer (some (A k)))] 32)).heap[wr.heap.size]? = some (.cells #[.string { data := #[120] }, .iface 68 (.pointer (some (A k)))] 32 (0, 0)) := heap_alloc_new _ _
      have hown1 := hown.alloc (.cells #[.string { data := #[120] }, .iface 68 (.pointer (some (A k)))] 32)
      have hbel1 := hbel.alloc hsz (.cells #[.string { data := #[120] }, .iface 68 (.pointer (some (A k)))] 32)
      generalize wr.heap.size = pb at *
      generalize wr.alloc (.cells #[.string { data := #[120] }, .iface 68 (.pointer (some (A k)))] 32) = wq at *
      clear hown hbel hc
      rw [show decide ((k : Int) < 8) = true from by simp; omega]
      go_loopw [1, 33] (fun v i wi => ∃ j : Nat, j ≤ 8 ∧ i = .int .i64 j ∧ wi.ownsRow (w.heap.size + 2) 4 1 v (2 * (8 * k + j)) (fl (8 * k + j)) ∧ Below (w.heap.size + 2) w2 wi ∧ wi.heap[pb]? = some (.cells #[.string { data := #[120] }, .iface 68 (.pointer (some (A k)))] 32 (0, 0))) (fun _ i _ => 8 - (intOf i).toNat)
      case atStart => exact ⟨0, by omega, rfl, hown1, hbel1, hpb⟩
      case round =>
        clear hown1 hbel1 hpb
        obtain ⟨j, hj, rfl, hown, hbel, hpb⟩ := hrel
        have hsi := hbel.size
        rw [sz2] at hsi
        by_cases hjt : j < 8
        · have hc : wr.cell? ⟨w.heap.size + 1, j, none⟩ = some (.iface 68 (.pointer (some (A j)))) := (hbel.cell (by simp)).trans (ec j hjt)
          have hSi : Sens A wr := hS2.below (by omega) hbel
          have hp1 : wr.cell? ⟨pb, 0 + 1, none⟩ = some (.iface 68 (.pointer (some (A k)))) := by simp [World.cell?, hpb]
          go_wp2_with fail
          refine (is_ij hSi k j hlt hjt).mono ?_
          rintro e w' ⟨rfl, rfl⟩
          go_wp2_with fail
          refine (isw_ij hSi pb k j hlt hjt hp1).mono ?_
          rintro e w' ⟨rfl, rfl⟩
          go_wp2_with (at_builtin; refine wpList_append_own _ rfl (.tmp 37) (.tmp 44) 23 rfl (w.heap.size + 2) 4 i0 (.bool false) 1 1 Tryd.underlying23 hi hz0 hz1 hz2 rfl (by decide) _ _ _ rfl (hown.alloc _) ⟨w'.heap.size, 0, none⟩ 2 2 [.bool (sameB k j), .bool (sameB k j)] rfl rfl ?c1 ?c2 ?c3 ?c4 ?c5 ?_)
          case c1 =>
            intro q u hq
            match q, hq with
            | 0, hq => simp at hq; subst hq; simp [Addr.add]
            | 1, hq => simp at hq; subst hq; simp [Addr.add]
          case c2 => intro u hu; simp at hu; subst hu; rfl
          case c3 => unfold maxLen; omega
          case c4 => omega
          case c5 => simp; omega
          intro v' w1 hown' hgrow _
          have R := rel_inner hjt hsi hown hbel hpb hown' hgrow
          clear hown' hgrow hown hbel hc hpb hp1 hSi hsi hS2
          go_wp2
          go_roundw
          case rel => exact ⟨j + 1, by omega, by go_num, R.1, R.2.1, R.2.2⟩
          case measure => simp [intOf]; omega
        · have hj8 : j = 8 := by omega
          subst hj8
          go_wp2
          go_roundw
          case rel => exact ⟨k + 1, by omega, by go_num, hown, hbel⟩
          case measure => simp [intOf]; omega
    · have hk8 : k = 8 := by omega
      subst hk8
      have g8r : wr.cell? ⟨8, 0, none⟩ = some (.iface 54 (.agg #[.pointer (some ⟨9, 28, none⟩)])) := (hbel.cell (by simp; omega)).trans g82
      clear hS2 ec g82
      have hL : (((wr.alloc (.cells #[.pointer none] 34)).alloc (.cells #[.int .i64 3] 36)).alloc (.cells #[.string { data := #[120] }, .iface 34 (.pointer (some ⟨wr.heap.size + 1, 0, none⟩))] 32)).cell? ⟨wr.heap.size, 0, none⟩ = some (.pointer none) := by
        rw [World.cell?_alloc_lt _ _ ⟨wr.heap.size, 0, none⟩ (by simp; omega), World.cell?_alloc_lt _ _ ⟨wr.heap.size, 0, none⟩ (by simp)]; simp
      have hL1 : (((wr.alloc (.cells #[.pointer none] 34)).alloc (.cells #[.int .i64 3] 36)).alloc (.cells #[.string { data := #[120] }, .iface 34 (.pointer (some ⟨wr.heap.size + 1, 0, none⟩))] 32)).cell? ⟨wr.heap.size + 1, 0, none⟩ = some (.int .i64 3) := by
        rw [World.cell?_alloc_lt _ _ ⟨wr.heap.size + 1, 0, none⟩ (by simp)]; simp
      have hF : (((wr.alloc (.cells #[.pointer none] 34)).alloc (.cells #[.int .i64 3] 36)).alloc (.cells #[.string { data := #[120] }, .iface 34 (.pointer (some ⟨wr.heap.size + 1, 0, none⟩))] 32)).frozen? ⟨wr.heap.size, 0, none⟩ = false := by
        rw [World.frozen?_alloc_old _ _ ⟨wr.heap.size, 0, none⟩ (by simp; omega), World.frozen?_alloc_old _ _ ⟨wr.heap.size, 0, none⟩ (by simp)]; simp
      have hG : (((wr.alloc (.cells #[.pointer none] 34)).alloc (.cells #[.int .i64 3] 36)).alloc (.cells #[.string { data := #[120] }, .iface 34 (.pointer (some ⟨wr.heap.size + 1, 0, none⟩))] 32)).cell? ⟨8, 0, none⟩ = some (.iface 54 (.agg #[.pointer (some ⟨9, 28, none⟩)])) := by
        rw [World.cell?_alloc_lt _ _ ⟨8, 0, none⟩ (by simp; omega), World.cell?_alloc_lt _ _ ⟨8, 0, none⟩ (by simp; omega), World.cell?_alloc_lt _ _ ⟨8, 0, none⟩ (by simp; omega)]; exact g8r
      have hP : (((wr.alloc (.cells #[.pointer none] 34)).alloc (.cells #[.int .i64 3] 36)).alloc (.cells #[.string { data := #[120] }, .iface 34 (.pointer (some ⟨wr.heap.size + 1, 0, none⟩))] 32)).cell? ⟨wr.heap.size + 1 + 1, 0 + 1, none⟩ = some (.iface 34 (.pointer (some ⟨wr.heap.size + 1, 0, none⟩))) := by
        rw [World.cell?_alloc_at _ _ _ _ (by simp)]; rfl
      have hX := asWorld_facts (e := ⟨wr.heap.size + 1, 0, none⟩) hL (by simp; omega) (by simp; omega) (((hbel.alloc hsz (.cells #[.pointer none] 34)).alloc (by simp; omega) (.cells #[.int .i64 3] 36)).alloc (by simp; omega) (.cells #[.string { data := #[120] }, .iface 34 (.pointer (some ⟨wr.heap.size + 1, 0, none⟩))] 32))
      have hne : Value.ownBlock u1 ≠ some wr.heap.size := fun e => by have := (hown.lt _ e).2; omega
      have hO := (((hown.alloc (.cells #[.pointer none] 34)).alloc (.cells #[.int .i64 3] 36)).alloc (.cells #[.string { data := #[120] }, .iface 34 (.pointer (some ⟨wr.heap.size + 1, 0, none⟩))] 32))
      have hO2 := hX.2.2.2 _ _ _ _ hO hne
      have hc1 := hX.2.1
      have hc2 := (hX.2.2.1 ⟨wr.heap.size + 1, 0, none⟩ (by simp) (by simp)).trans hL1
      have hb2 := hX.1
      clear hX hO hown hbel hne hL1 g8r
      go_wp2_with fail
      refine (as_wrap_hit _ 0 _ _ (.pointer none) _ hP hG hL hF).mono ?_
      rintro e w' ⟨rfl, hw⟩
      rw [← hw] at hO2 hc1 hc2 hb2
      clear hw hP hG hL hF
      go_wp2
      go_ret3
      exact ⟨_, rfl, hO2, by rw [HW.out]; exact hb2⟩
end Go.Proofs.YtleenphlgbklmaaDoor
